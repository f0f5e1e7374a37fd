/-
  The reference's Bin of layer 8: the rounded product, opcodes that are none, all opcodes. Conditions: bytes, 64 bits.
-/
import Derived.Test.YtkccaaieadgdbaaWdRb
namespace Go.Proofs.Ytkccaaieadgdbaa
open Go.RowKit VecM Ev
namespace Wd
theorem roF_byt (a b : Nat → Int) (k : Nat) : Byt (roK a b k) := ofK_byt byt0 _ _ _
theorem rhV_bd (w : Int) (sg : Bool) (n : Int) : 0 ≤ rhV w sg n ∧ rhV w sg n < 18446744073709551616 := by unfold rhV; rw [IntKind.wrap_u64]; omega
theorem tdiv_neg (p : Int) (h : p < 0) : Int.tdiv p 32768 = -((-p) / 32768) ∧ Int.tmod p 32768 = -((-p) % 32768) := by
  have e : p = -(-p) := by omega
  constructor
  · rw [e, Int.neg_tdiv, Int.neg_neg, Int.tdiv_eq_ediv_of_nonneg (by omega)]
  · rw [e, Int.neg_tmod, Int.neg_neg, Int.tmod_eq_emod_of_nonneg (by omega)]
theorem q_val (x : Int) (h0 : -1073741824 ≤ x) (h1 : x ≤ 1073741824) (c : Bool) (hc : (c = true ↔ (x + 16384 < 0 ∧ Int.tmod (x + 16384) 32768 ≠ 0))) : rhV 16 true (qQ c (x + 16384)) = IntKind.u64.wrap (q15 x) := by
  unfold rhV
  congr 1
  rw [show rlo 16 true = -32768 from rfl, show rhi 16 true = 32767 from rfl]
  by_cases hp : x + 16384 < 0
  · obtain ⟨e1, e2⟩ := tdiv_neg _ hp
    cases c with
    | true =>
      have := hc.1 rfl
      rw [e2] at this
      unfold qQ q15 holdI
      simp only [e1]
      rw [IntWalk.i64_in (-(-(x + 16384) / 32768)) (by omega), IntWalk.i64_in _ (by omega)]
      rw [if_neg (by omega)]
      repeat' split
      all_goals omega
    | false =>
      have : ¬ Int.tmod (x + 16384) 32768 ≠ 0 := fun h => by have := hc.2 ⟨hp, h⟩; cases this
      rw [e2] at this
      unfold qQ q15 holdI
      simp only [e1]
      rw [IntWalk.i64_in (-(-(x + 16384) / 32768)) (by omega)]
      rw [if_neg (by omega)]
      repeat' split
      all_goals omega
  · have e1 : Int.tdiv (x + 16384) 32768 = (x + 16384) / 32768 := Int.tdiv_eq_ediv_of_nonneg (by omega)
    cases c with
    | true => have := (hc.1 rfl).1; omega
    | false =>
      unfold qQ q15 holdI
      simp only [e1]
      rw [IntWalk.i64_in _ (by omega)]
      rw [if_neg (by omega)]
      repeat' split
      all_goals omega
theorem qP_val (a b : Nat → Int) (ha : Byt a) (hb : Byt b) (n : Nat) : qP a b n = sgnI a 16 n * sgnI b 16 n + 16384 ∧ -1073741824 ≤ sgnI a 16 n * sgnI b 16 n ∧ sgnI a 16 n * sgnI b 16 n ≤ 1073741824 := by
  have hm := mul_bd _ _ (sg16_bd ha n) (sg16_bd hb n)
  refine ⟨?_, hm.1, hm.2⟩
  unfold qP
  rw [IntWalk.i64_in (sgnI a 16 n * sgnI b 16 n) (by omega), IntWalk.i64_in _ (by omega)]
theorem qD_ok (a b : Nat → Int) (n : Nat) (c neg rem : Bool) (h1 : decide (qP a b n < 0) = neg) (h2 : (Int.tmod (qP a b n) 32768 != 0) = rem) : ∀ p ∈ qD a b n c neg rem, p.1 = p.2 := by
  have hb := rhV_bd 16 true (qQ c (qP a b n))
  intro p hp
  unfold qD at hp
  simp only [List.mem_cons, List.not_mem_nil, or_false] at hp
  rcases hp with rfl | rfl | rfl | rfl
  · exact h1
  · exact h2
  · exact decide_eq_true hb.1
  · exact decide_eq_true hb.2
theorem qOut_eq (a b : Nat → Int) (ha : Byt a) (hb : Byt b) (n : Nat) (c : Bool) (hc : (c = true ↔ (qP a b n < 0 ∧ Int.tmod (qP a b n) 32768 ≠ 0))) : qOut a b n c = roK a b (n + 1) := by
  obtain ⟨e, h0, h1⟩ := qP_val a b ha hb n
  unfold qOut roK
  rw [ofK, e, q_val _ h0 h1 c (by rw [← e]; exact hc)]
  rfl
theorem q_round (r6 : Rw) (ba bb bo : Nat) (a b : Nat → Int) (ha : Byt a) (hb : Byt b) (g : Nat → Value) (n : Nat) {w0 w : World} (hS : SG w0 [vrow bo (roK a b n), r6, vrow bb b, vrow ba a] w) {Q : Exit → Act → World → Prop}
    (hq : ∀ (T' : Tm) w', T'.n = 200 → (∀ p ∈ keepOf (qNeed n ba bb bo) g 200 qHav, tget T' p.1 = p.2) → SG w0 [vrow bo (roK a b (n + 1)), r6, vrow bb b, vrow ba a] w' → Q .normal ⟨T'.toArray, []⟩ w') :
    wpX Try.prog qBlk Q ⟨(valsOf (qNeed n ba bb bo) g 200).toArray, []⟩ w := by
  have hK : ∀ x ∈ [a, b, roK a b n], Byt x := by
    intro x hx
    simp only [List.mem_cons, List.not_mem_nil, or_false] at hx
    rcases hx with rfl | rfl | rfl
    · exact ha
    · exact hb
    · exact roF_byt _ _ _
  by_cases h1 : qP a b n < 0
  · by_cases h2 : Int.tmod (qP a b n) 32768 ≠ 0
    · rw [← qOut_eq a b ha hb n true ⟨fun _ => ⟨h1, h2⟩, fun _ => rfl⟩] at hq
      exact ev_code (E := envB [a, b, roK a b n]) (E' := envB [qX, qA0, fun _ => 0]) rfl (sumB_ok _ hK) (fuel := 40) (c := qBlk) (vals' := valsOf (qNeed 0 1001 1002 1003) (fun _ => undef) 200) (M' := [vrow 1003 fun _ => 0, vrow 1004 fun _ => 1, vrow 1002 qA0, vrow 1001 qX]) (ex := .normal)
        (keep := keepOf (qNeed n ba bb bo) g 200 qHav) (M1 := [vrow bo (qOut a b n true), r6, vrow bb b, vrow ba a]) rfl (qD a b n true true true) q0Ts (qD_ok a b n true true true (decide_eq_true h1) (by simp [h2])) (fun β => by kernel_rfl) hS hq
    · rw [← qOut_eq a b ha hb n false ⟨fun h => (by cases h), fun h => absurd h.2 h2⟩] at hq
      exact ev_code (E := envB [a, b, roK a b n]) (E' := envB [qX1, qA1, fun _ => 0]) rfl (sumB_ok _ hK) (fuel := 40) (c := qBlk) (vals' := valsOf (qNeed 0 1001 1002 1003) (fun _ => undef) 200) (M' := [vrow 1003 fun _ => 0, vrow 1004 fun _ => 1, vrow 1002 qA1, vrow 1001 qX1]) (ex := .normal)
        (keep := keepOf (qNeed n ba bb bo) g 200 qHav) (M1 := [vrow bo (qOut a b n false), r6, vrow bb b, vrow ba a]) rfl (qD a b n false true false) q1Ts (qD_ok a b n false true false (decide_eq_true h1) (by simpa using h2)) (fun β => by kernel_rfl) hS hq
  · rw [← qOut_eq a b ha hb n false ⟨fun h => (by cases h), fun h => absurd h.1 h1⟩] at hq
    exact ev_code (E := envB [a, b, roK a b n]) (E' := envB [qX, qA2, fun _ => 0]) rfl (sumB_ok _ hK) (fuel := 40) (c := qBlk) (vals' := valsOf (qNeed 0 1001 1002 1003) (fun _ => undef) 200) (M' := [vrow 1003 fun _ => 0, vrow 1004 fun _ => 1, vrow 1002 qA2, vrow 1001 qX]) (ex := .normal)
      (keep := keepOf (qNeed n ba bb bo) g 200 qHav) (M1 := [vrow bo (qOut a b n false), r6, vrow bb b, vrow ba a]) rfl (qD a b n false false (Int.tmod (qP a b n) 32768 != 0)) q2Ts (qD_ok a b n false false _ (decide_eq_false h1) rfl) (fun β => by kernel_rfl) hS hq
noncomputable def qHole (a b : Nat → Int) (id : Nat) (_ : Code) (T : Tm) (M : List Rw) : Option Hole :=
  match Nat.beq id 3 with
  | false => none
  | true => match tget T 14 with
    | .int .i64 i => match M with
      | [ro, r6, rb, ra] => some ⟨qBlk, 200, qNeed i ra.b rb.b ro.b, [vrow ro.b (roK a b i.toNat), r6, vrow rb.b b, vrow ra.b a], [decide (0 ≤ i), decide (i < 8)], true,
        fun _ ξ => (.normal, qHav.map fun k => (k, ξ k), [vrow ro.b (roK a b (i.toNat + 1)), r6, vrow rb.b b, vrow ra.b a])⟩
      | _ => none
    | _ => none
noncomputable def envQ (a b : Nat → Int) (K : List (Nat → Int)) : Env := { P := Try.prog, known := K, sum := sumB, hole := qHole a b }
theorem q_holes (a b : Nat → Int) (ha : Byt a) (hb : Byt b) (K : List (Nat → Int)) : HolesOk (envQ a b K) := by
  intro id body T M H hq hn hneed hrows hpre w0 w Q hS hQ
  replace hq : qHole a b id body T M = some H := hq
  unfold qHole at hq
  split at hq
  · cases hq
  · split at hq
    · rename_i i _
      split at hq
      · rename_i ro r6 rb ra
        cases hq
        simp only at hn hneed hrows hpre hQ
        have h0 := hpre _ (List.mem_cons_self ..)
        have h1 := hpre _ (List.mem_cons_of_mem _ (List.mem_cons_self ..))
        simp only [decide_eq_true_eq] at h0 h1
        rw [hrows] at hS
        obtain ⟨n, rfl⟩ : ∃ n : Nat, i = n := ⟨i.toNat, by omega⟩
        simp only [Int.toNat_natCast] at hS hQ
        show qBlk.wp Try.prog Q ⟨T.toArray, []⟩ w
        rw [vals_eq hn hneed]
        refine wpX_wp (q_round r6 ra.b rb.b ro.b a b ha hb (tget T) n hS fun T' w' e1 e2 e3 => ?_)
        rw [hole_T hn e1 hneed e2]
        exact hQ (tget T') w' e3
      · cases hq
    · cases hq
noncomputable def q15Path (a b : Nat → Int) (β : Nat → Fr) : Out :=
  evPath (envQ a b [a, b]) (envQ sA sB [sA, sB]) 60 13 [.int .i64 64898, .agg (bs a), .agg (bs b)] [.int .i64 64898, .agg (bs sA), .agg (bs sB)] (.tuple #[.agg (bs (roK a b 8)), .int .i64 0]) β
--EVTS q15Ts | fun (a b : Nat → Int) (β : Nat → Fr) => (q15Path a b β, ([] : List (Bool × Bool)))
def q15Ts : List Nat := [0, 0, 0, 0, 0, 0, 0, 0, 0, 0, 0, 0, 0, 0, 0, 0, 0, 0, 0, 0, 0, 0, 0, 0, 0, 0, 0, 0, 0, 0, 0, 0, 0, 0, 0, 0, 0, 0, 0, 0, 0, 0, 0, 0]
theorem two_byt {a b : Nat → Int} (ha : Byt a) (hb : Byt b) : ∀ x ∈ [a, b], Byt x := fun x hx => by
  simp only [List.mem_cons, List.not_mem_nil, or_false] at hx
  rcases hx with rfl | rfl
  · exact ha
  · exact hb
theorem rb64898 (a b : Nat → Int) (ha : Byt a) (hb : Byt b) (w : World) : Calls Try.prog 13 #[.int .i64 64898, .agg (bs a), .agg (bs b)] w fun e w' => e = .returned (.tuple #[.agg (bs (roK a b 8)), .int .i64 0]) ∧ Gr w w' :=
  ev_path (E := envQ a b [a, b]) (E' := envQ sA sB [sA, sB]) rfl (sumB_ok' (envQ a b [a, b]) rfl (two_byt ha hb)) (fuel := 60) (args' := [.int .i64 64898, .agg (bs sA), .agg (bs sB)]) [] q15Ts (fun p hp => by cases hp) (fun β => by kernel_rfl) w (q_holes a b ha hb _)
/-! ### no opcode -/
def nbD (k t : Int) : List (Bool × Bool) := ([101, 102, 133, 134, 130, 186].map fun c => (k == c, false)) ++ [156, 188, 220].flatMap fun b => [(decide (k ≥ b), decide (t ≥ b)), (decide (k < b + 4), decide (t < b + 4))]
noncomputable def nbPath (op t : Int) (a b : Nat → Int) (β : Nat → Fr) : Out :=
  evPath (envB [a, b]) (envB [sA, sB]) 60 13 [.int .i64 op, .agg (bs a), .agg (bs b)] [.int .i64 t, .agg (bs sA), .agg (bs sB)] (.tuple #[.agg (bs fun _ => 0), .int .i64 1]) β
theorem nbD_ok {k t : Int} (h : k ≠ 101 ∧ k ≠ 102 ∧ k ≠ 133 ∧ k ≠ 134 ∧ k ≠ 130 ∧ k ≠ 186) (h2 : (k ≥ 156 ↔ t ≥ 156) ∧ (k < 160 ↔ t < 160) ∧ (k ≥ 188 ↔ t ≥ 188) ∧ (k < 192 ↔ t < 192) ∧ (k ≥ 220 ↔ t ≥ 220) ∧ (k < 224 ↔ t < 224)) : ∀ p ∈ nbD k t, p.1 = p.2 := by
  intro p hp
  unfold nbD at hp
  simp only [List.mem_append, List.mem_flatMap, List.mem_map, List.mem_cons, List.not_mem_nil, or_false, exists_eq_or_imp, exists_eq_left] at hp
  rcases hp with (rfl | rfl | rfl | rfl | rfl | rfl) | (rfl | rfl) | (rfl | rfl) | (rfl | rfl)
  · exact beq_eq_false_iff_ne.2 h.1
  · exact beq_eq_false_iff_ne.2 h.2.1
  · exact beq_eq_false_iff_ne.2 h.2.2.1
  · exact beq_eq_false_iff_ne.2 h.2.2.2.1
  · exact beq_eq_false_iff_ne.2 h.2.2.2.2.1
  · exact beq_eq_false_iff_ne.2 h.2.2.2.2.2
  · exact decide_eq_decide.2 h2.1
  · exact decide_eq_decide.2 h2.2.1
  · exact decide_eq_decide.2 h2.2.2.1
  · exact decide_eq_decide.2 h2.2.2.2.1
  · exact decide_eq_decide.2 h2.2.2.2.2.1
  · exact decide_eq_decide.2 h2.2.2.2.2.2
--EVTS nbTs0 | fun (op : Int) (a b : Nat → Int) (β : Nat → Fr) => (nbPath op 64768 a b β, nbD (IntKind.i64.wrap (op - 64768)) 0)
def nbTs0 : List Nat := [0, 0, 11, 11, 11, 11, 11, 0, 0, 9, 9, 9, 9, 9, 0, 0, 7, 7, 7, 7, 7, 0, 6, 5, 4, 3, 3, 3, 2, 2, 2, 1, 1, 1]
theorem nb_0 (op k : Int) (hk : IntKind.i64.wrap (op - 64768) = k) (h : k ≠ 101 ∧ k ≠ 102 ∧ k ≠ 133 ∧ k ≠ 134 ∧ k ≠ 130 ∧ k ≠ 186) (hc : k ≤ 155) (a b : Nat → Int) (ha : Byt a) (hb : Byt b) (w : World) : Calls Try.prog 13 #[.int .i64 op, .agg (bs a), .agg (bs b)] w fun e w' => e = .returned (.tuple #[.agg (bs fun _ => 0), .int .i64 1]) ∧ Gr w w' :=
  ev_path (E := envB [a, b]) (E' := envB [sA, sB]) rfl (sumB_ok _ (two_byt ha hb)) (fuel := 60) (args' := [.int .i64 64768, .agg (bs sA), .agg (bs sB)]) (nbD (IntKind.i64.wrap (op - 64768)) 0) nbTs0 (by rw [hk]; exact nbD_ok h (by omega)) (fun β => by kernel_rfl) w
--EVTS nbTs1 | fun (op : Int) (a b : Nat → Int) (β : Nat → Fr) => (nbPath op 64938 a b β, nbD (IntKind.i64.wrap (op - 64768)) 170)
def nbTs1 : List Nat := [0, 0, 11, 11, 11, 11, 11, 0, 0, 9, 9, 9, 9, 9, 0, 8, 7, 7, 7, 7, 7, 0, 6, 5, 4, 3, 3, 3, 2, 2, 2, 1, 1, 1]
theorem nb_1 (op k : Int) (hk : IntKind.i64.wrap (op - 64768) = k) (h : k ≠ 101 ∧ k ≠ 102 ∧ k ≠ 133 ∧ k ≠ 134 ∧ k ≠ 130 ∧ k ≠ 186) (hc : 160 ≤ k ∧ k ≤ 187) (a b : Nat → Int) (ha : Byt a) (hb : Byt b) (w : World) : Calls Try.prog 13 #[.int .i64 op, .agg (bs a), .agg (bs b)] w fun e w' => e = .returned (.tuple #[.agg (bs fun _ => 0), .int .i64 1]) ∧ Gr w w' :=
  ev_path (E := envB [a, b]) (E' := envB [sA, sB]) rfl (sumB_ok _ (two_byt ha hb)) (fuel := 60) (args' := [.int .i64 64938, .agg (bs sA), .agg (bs sB)]) (nbD (IntKind.i64.wrap (op - 64768)) 170) nbTs1 (by rw [hk]; exact nbD_ok h (by omega)) (fun β => by kernel_rfl) w
--EVTS nbTs2 | fun (op : Int) (a b : Nat → Int) (β : Nat → Fr) => (nbPath op 64968 a b β, nbD (IntKind.i64.wrap (op - 64768)) 200)
def nbTs2 : List Nat := [0, 0, 11, 11, 11, 11, 11, 0, 10, 9, 9, 9, 9, 9, 0, 8, 7, 7, 7, 7, 7, 0, 6, 5, 4, 3, 3, 3, 2, 2, 2, 1, 1, 1]
theorem nb_2 (op k : Int) (hk : IntKind.i64.wrap (op - 64768) = k) (h : k ≠ 101 ∧ k ≠ 102 ∧ k ≠ 133 ∧ k ≠ 134 ∧ k ≠ 130 ∧ k ≠ 186) (hc : 192 ≤ k ∧ k ≤ 219) (a b : Nat → Int) (ha : Byt a) (hb : Byt b) (w : World) : Calls Try.prog 13 #[.int .i64 op, .agg (bs a), .agg (bs b)] w fun e w' => e = .returned (.tuple #[.agg (bs fun _ => 0), .int .i64 1]) ∧ Gr w w' :=
  ev_path (E := envB [a, b]) (E' := envB [sA, sB]) rfl (sumB_ok _ (two_byt ha hb)) (fuel := 60) (args' := [.int .i64 64968, .agg (bs sA), .agg (bs sB)]) (nbD (IntKind.i64.wrap (op - 64768)) 200) nbTs2 (by rw [hk]; exact nbD_ok h (by omega)) (fun β => by kernel_rfl) w
--EVTS nbTs3 | fun (op : Int) (a b : Nat → Int) (β : Nat → Fr) => (nbPath op 65068 a b β, nbD (IntKind.i64.wrap (op - 64768)) 300)
def nbTs3 : List Nat := [0, 12, 11, 11, 11, 11, 11, 0, 10, 9, 9, 9, 9, 9, 0, 8, 7, 7, 7, 7, 7, 0, 6, 5, 4, 3, 3, 3, 2, 2, 2, 1, 1, 1]
theorem nb_3 (op k : Int) (hk : IntKind.i64.wrap (op - 64768) = k) (h : k ≠ 101 ∧ k ≠ 102 ∧ k ≠ 133 ∧ k ≠ 134 ∧ k ≠ 130 ∧ k ≠ 186) (hc : 224 ≤ k) (a b : Nat → Int) (ha : Byt a) (hb : Byt b) (w : World) : Calls Try.prog 13 #[.int .i64 op, .agg (bs a), .agg (bs b)] w fun e w' => e = .returned (.tuple #[.agg (bs fun _ => 0), .int .i64 1]) ∧ Gr w w' :=
  ev_path (E := envB [a, b]) (E' := envB [sA, sB]) rfl (sumB_ok _ (two_byt ha hb)) (fuel := 60) (args' := [.int .i64 65068, .agg (bs sA), .agg (bs sB)]) (nbD (IntKind.i64.wrap (op - 64768)) 300) nbTs3 (by rw [hk]; exact nbD_ok h (by omega)) (fun β => by kernel_rfl) w
/-! ### all opcodes -/
theorem na_eq (w m lo hi V : Int) (sg : Bool) (N : Nat) (hw : w = 8 ∨ w = 16) (hL : lanesI w = 2 * N) (hlo : rlo w sg = lo) (hhi : rhi w sg = hi) (a b : Nat → Int) (hby : Byt (naK w m N lo hi a b N)) : bs (ofK (fun _ => 0) w (rnF w m N sg a b) (2 * N)) = bs (naK w m N lo hi a b N) := by
  refine bs_congr (ext (ofK_byt byt0 _ _ _) hby w (by omega) fun j hj => ?_)
  obtain ⟨h0, h1⟩ := there_iff.1 hj
  rw [get_ofK _ _ _ j hj, if_pos (by omega), (nar_at w m N lo hi N rfl hL a b j h0 (by omega)).1]
  unfold rnF rhV nwX
  rw [hlo, hhi]
theorem mu_eq (op e v : Int) (L : Nat) (hv : v = 8 ∨ v = 16 ∨ v = 32 ∨ v = 64) (hL : lanesI v = L) (a b : Nat → Int) (ha : Byt a) (hbi : biV op a b = ofK (unV e a) v (muF e v a b) L) : bs (ofK (fun _ => 0) v (muF e v a b) L) = bs (biV op a b) := by
  refine bs_congr (ext (ofK_byt byt0 _ _ _) (bi_byt _ ha) v hv fun j hj => ?_)
  have := (there_iff.1 hj).2
  rw [hbi, get_ofK _ _ _ j hj, get_ofK _ _ _ j hj, if_pos (by omega), if_pos (by omega)]
theorem rd_lane (a b : Nat → Int) (ha : Byt a) (hb : Byt b) : ∀ j : Nat, j < 4 → getI (rdV a b 8) 32 j = getI (biV 64954 a b) 32 j := by
  have ht : ∀ i : Nat, i < 4 → thereB 32 (i : Int) = true := fun i h => there_iff.2 ⟨by omega, by unfold lanesI; simp; omega⟩
  have hz : ∀ i, getI (fun _ => 0) 32 i = 0 := fun i => by
    unfold getI
    split
    · have : ∀ base k, sumN (fun _ => 0) base k = 0 := fun base k => by
        induction k with
        | zero => rfl
        | succ k ih => rw [sumN, ih]; simp
      exact this _ _
    · rfl
  have e32 : (256 : Int) ^ wid 32 = 4294967296 := by decide
  -- after both rounds of lane j
  have key : ∀ k : Nat, k ≤ 4 → (∀ j : Nat, j < k → getI (rdV a b (2 * k)) 32 j = (sgnI a 16 ((2 * j : Nat) : Int) * sgnI b 16 ((2 * j : Nat) : Int) + sgnI a 16 ((2 * j + 1 : Nat) : Int) * sgnI b 16 ((2 * j + 1 : Nat) : Int)) % 4294967296) ∧ ∀ j : Nat, k ≤ j → getI (rdV a b (2 * k)) 32 j = 0 := by
    intro k
    induction k with
    | zero => exact fun _ => ⟨fun j hj => by omega, fun j _ => hz _⟩
    | succ k ih =>
      intro hk
      obtain ⟨h1, h2⟩ := ih (by omega)
      have hd1 : ((2 * k / 2 : Nat) : Int) = k := by omega
      have hd2 : (((2 * k + 1) / 2 : Nat) : Int) = k := by omega
      have hs : rdV a b (2 * (k + 1)) = setI (setI (rdV a b (2 * k)) 32 k (rdX a b (rdV a b (2 * k)) (2 * k))) 32 k (rdX a b (setI (rdV a b (2 * k)) 32 k (rdX a b (rdV a b (2 * k)) (2 * k))) (2 * k + 1)) := by
        show setI (rdV a b (2 * k + 1)) 32 (((2 * k + 1) / 2 : Nat) : Int) (rdX a b (rdV a b (2 * k + 1)) (2 * k + 1)) = _
        have e : rdV a b (2 * k + 1) = setI (rdV a b (2 * k)) 32 k (rdX a b (rdV a b (2 * k)) (2 * k)) := by rw [rdV, hd1]
        rw [hd2, e]
      refine ⟨fun j hj => ?_, fun j hj => ?_⟩
      · rw [hs]
        by_cases h : j = k
        · subst h
          rw [get_set _ _ _ _ (ht j (by omega)), e32]
          unfold rdX
          rw [hd2, get_set _ _ _ _ (ht j (by omega)), e32, hd1, h2 j (Nat.le_refl _)]
          have m1 := mul_bd _ _ (sg16_bd ha (2 * j)) (sg16_bd hb (2 * j))
          have m2 := mul_bd _ _ (sg16_bd ha (2 * j + 1)) (sg16_bd hb (2 * j + 1))
          rw [IntWalk.i64_in _ (by omega), IntWalk.i64_in _ (by omega)]
          simp only [IntKind.wrap_u64]
          omega
        · rw [get_set_other _ _ _ _ _ (show (k : Int) ≠ (j : Int) by omega), get_set_other _ _ _ _ _ (show (k : Int) ≠ (j : Int) by omega)]
          exact h1 j (by omega)
      · rw [hs, get_set_other _ _ _ _ _ (show (k : Int) ≠ (j : Int) by omega), get_set_other _ _ _ _ _ (show (k : Int) ≠ (j : Int) by omega)]
        exact h2 j (by omega)
  intro j hj
  have h := (key 4 (by omega)).1 j hj
  have h1 := sgn_bd ha 16 65536 (by omega) (2 * (j : Int))
  have h2 := sgn_bd hb 16 65536 (by omega) (2 * (j : Int))
  have h3 := sgn_bd ha 16 65536 (by omega) (2 * (j : Int) + 1)
  have h4 := sgn_bd hb 16 65536 (by omega) (2 * (j : Int) + 1)
  have m1 := mul_in 32768 (sgnI a 16 (2 * (j : Int))) (sgnI b 16 (2 * (j : Int))) (by omega) (by omega) (by omega) (by omega)
  have m2 := mul_in 32768 (sgnI a 16 (2 * (j : Int) + 1)) (sgnI b 16 (2 * (j : Int) + 1)) (by omega) (by omega) (by omega) (by omega)
  rw [show ((2 * j : Nat) : Int) = 2 * (j : Int) by omega, show ((2 * j + 1 : Nat) : Int) = 2 * (j : Int) + 1 by omega] at h
  refine h.trans ?_
  rw [bi_64954]
  refine ((lane_at 32 4294967296 4 (.inr (.inl ⟨rfl, rfl, rfl⟩)) _ _ j hj _ ?_).1).symm
  rw [wrap_mod _ _ (by decide), IntWalk.i64_in (sgnI a 16 (2 * (j : Int)) * sgnI b 16 (2 * (j : Int))) (by omega), IntWalk.i64_in (sgnI a 16 (2 * (j : Int) + 1) * sgnI b 16 (2 * (j : Int) + 1)) (by omega), IntWalk.i64_in _ (by omega)]
theorem rd_eq (a b : Nat → Int) (ha : Byt a) (hb : Byt b) : bs (rdV a b 8) = bs (biV 64954 a b) :=
  bs_congr (ext (rdV_byt _ _ _) (bi_byt _ ha) 32 (by omega) fun j hj => rd_lane a b ha hb j (by have := (there_iff.1 hj).2; unfold lanesI at this; simp at this; omega))
theorem bi_none (op : Int) (h : ¬ (64869 ≤ op ∧ op ≤ 64870 ∨ 64901 ≤ op ∧ op ≤ 64902 ∨ op = 64898 ∨ op = 64954 ∨ 64924 ≤ op ∧ op ≤ 64927 ∨ 64956 ≤ op ∧ op ≤ 64959 ∨ 64988 ≤ op ∧ op ≤ 64991)) (a b : Nat → Int) : biV op a b = (fun _ => 0) ∧ biE op = 1 := by
  have h1 : narW op = 0 := by unfold narW inR; simp; omega
  have h2 : xW 64924 op = 0 := by unfold xW inR; simp; omega
  have h3 : ¬ op = 64954 := by omega
  have h4 : ¬ op = 64898 := by omega
  unfold biV biE
  simp [h1, h2, h3, h4]
theorem rbin_any (op : Int) (ho : -9223372036854775808 ≤ op ∧ op ≤ 9223372036854775807) (a b : Nat → Int) (ha : Byt a) (hb : Byt b) (w : World) : Calls Try.prog 13 #[.int .i64 op, .agg (bs a), .agg (bs b)] w fun e w' => e = .returned (.tuple #[.agg (bs (biV op a b)), .int .i64 (biE op)]) ∧ Gr w w' := by
  by_cases h : 64869 ≤ op ∧ op ≤ 64870 ∨ 64901 ≤ op ∧ op ≤ 64902 ∨ op = 64898 ∨ op = 64954 ∨ 64924 ≤ op ∧ op ≤ 64927 ∨ 64956 ≤ op ∧ op ≤ 64959 ∨ 64988 ≤ op ∧ op ≤ 64991
  · have h2 : op = 64869 ∨ op = 64870 ∨ op = 64901 ∨ op = 64902 ∨ op = 64898 ∨ op = 64954 ∨ op = 64924 ∨ op = 64925 ∨ op = 64926 ∨ op = 64927 ∨ op = 64956 ∨ op = 64957 ∨ op = 64958 ∨ op = 64959 ∨ op = 64988 ∨ op = 64989 ∨ op = 64990 ∨ op = 64991 := by omega
    rcases h2 with rfl | rfl | rfl | rfl | rfl | rfl | rfl | rfl | rfl | rfl | rfl | rfl | rfl | rfl | rfl | rfl | rfl | rfl
    · have e := na_eq 8 16 (-128) 127 0 true 8 (by omega) rfl rfl rfl a b (naK_byt _ _ _ _ _ _ _ _)
      have e2 : bs (biV 64869 a b) = bs (ofK (fun _ => 0) 8 (rnF 8 16 8 true a b) 16) := (congrArg bs (bi_64869 a b)).trans e.symm
      rw [e2]
      exact rb64869 a b ha hb w
    · have e := na_eq 8 16 (0) 255 0 false 8 (by omega) rfl rfl rfl a b (naK_byt _ _ _ _ _ _ _ _)
      have e2 : bs (biV 64870 a b) = bs (ofK (fun _ => 0) 8 (rnF 8 16 8 false a b) 16) := (congrArg bs (bi_64870 a b)).trans e.symm
      rw [e2]
      exact rb64870 a b ha hb w
    · have e := na_eq 16 32 (-32768) 32767 0 true 4 (by omega) rfl rfl rfl a b (naK_byt _ _ _ _ _ _ _ _)
      have e2 : bs (biV 64901 a b) = bs (ofK (fun _ => 0) 16 (rnF 16 32 4 true a b) 8) := (congrArg bs (bi_64901 a b)).trans e.symm
      rw [e2]
      exact rb64901 a b ha hb w
    · have e := na_eq 16 32 (0) 65535 0 false 4 (by omega) rfl rfl rfl a b (naK_byt _ _ _ _ _ _ _ _)
      have e2 : bs (biV 64902 a b) = bs (ofK (fun _ => 0) 16 (rnF 16 32 4 false a b) 8) := (congrArg bs (bi_64902 a b)).trans e.symm
      rw [e2]
      exact rb64902 a b ha hb w
    · have e2 : biV 64898 a b = roK a b 8 := ro_bi a b
      rw [e2]
      exact rb64898 a b ha hb w
    · rw [← rd_eq a b ha hb]
      exact rb64954 a b ha hb w
    · rw [← mu_eq 64924 64903 16 8 (by omega) rfl a b ha (bi_64924 a b)]
      exact rb64924 a b ha hb w
    · rw [← mu_eq 64925 64904 16 8 (by omega) rfl a b ha (bi_64925 a b)]
      exact rb64925 a b ha hb w
    · rw [← mu_eq 64926 64905 16 8 (by omega) rfl a b ha (bi_64926 a b)]
      exact rb64926 a b ha hb w
    · rw [← mu_eq 64927 64906 16 8 (by omega) rfl a b ha (bi_64927 a b)]
      exact rb64927 a b ha hb w
    · rw [← mu_eq 64956 64935 32 4 (by omega) rfl a b ha (bi_64956 a b)]
      exact rb64956 a b ha hb w
    · rw [← mu_eq 64957 64936 32 4 (by omega) rfl a b ha (bi_64957 a b)]
      exact rb64957 a b ha hb w
    · rw [← mu_eq 64958 64937 32 4 (by omega) rfl a b ha (bi_64958 a b)]
      exact rb64958 a b ha hb w
    · rw [← mu_eq 64959 64938 32 4 (by omega) rfl a b ha (bi_64959 a b)]
      exact rb64959 a b ha hb w
    · rw [← mu_eq 64988 64967 64 2 (by omega) rfl a b ha (bi_64988 a b)]
      exact rb64988 a b ha hb w
    · rw [← mu_eq 64989 64968 64 2 (by omega) rfl a b ha (bi_64989 a b)]
      exact rb64989 a b ha hb w
    · rw [← mu_eq 64990 64969 64 2 (by omega) rfl a b ha (bi_64990 a b)]
      exact rb64990 a b ha hb w
    · rw [← mu_eq 64991 64970 64 2 (by omega) rfl a b ha (bi_64991 a b)]
      exact rb64991 a b ha hb w
  · rw [(bi_none op h a b).1, (bi_none op h a b).2]
    obtain ⟨k, hk⟩ : ∃ k, IntKind.i64.wrap (op - 64768) = k := ⟨_, rfl⟩
    have hk2 : k = op - 64768 ∨ k ≥ 1000000 := by
      by_cases hq : -9223372036854711040 ≤ op
      · left; rw [← hk]; exact IntWalk.i64_in _ (by omega)
      · right; rw [← hk]; unfold IntKind.wrap; simp [IntKind.signed, IntKind.bits]; omega
    have hc : k ≤ 155 ∨ (160 ≤ k ∧ k ≤ 187) ∨ (192 ≤ k ∧ k ≤ 219) ∨ 224 ≤ k := by omega
    rcases hc with hc | hc | hc | hc
    · exact nb_0 op k hk (by omega) hc a b ha hb w
    · exact nb_1 op k hk (by omega) hc a b ha hb w
    · exact nb_2 op k hk (by omega) hc a b ha hb w
    · exact nb_3 op k hk (by omega) hc a b ha hb w
end Wd
end Go.Proofs.Ytkccaaieadgdbaa
