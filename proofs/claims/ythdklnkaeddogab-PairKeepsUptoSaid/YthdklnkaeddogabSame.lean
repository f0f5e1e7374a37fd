/-
  The contracts of the document's All, of the laws' same, and of what asks and tells types: count, Need, Width.
-/
import Derived.Test.YthdklnkaeddogabRef2
namespace Go.Proofs.Ythdklnkaeddogab
open Go.RowKit VecM
set_option maxHeartbeats 1000000 in
theorem rall_any (b : Nat → Int) (hb : Byt b) (v : Int) (w : World) :
    Calls Try.prog 21 #[.agg (bs b), .int .i64 v] w fun e w' => ∃ sv, e = .returned sv ∧ Gr w w' ∧ w'.ownsRow w.heap.size 26 1 sv (lanesI v).toNat (u64s (fun j => getI b v j) (lanesI v).toNat) := by
  have hbd := lanes_bd v
  obtain ⟨L, hL⟩ : ∃ L : Nat, lanesI v = L := ⟨(lanesI v).toNat, by omega⟩
  have hcon : ∀ w, Calls Try.prog 12 #[.int .i64 v] w fun e w' => e = .returned (.int .i64 (L : Int)) ∧ w = w' := by rw [← hL]; exact rlanes_any v
  have HK := Lib.hid hcon
  rw [hL, Int.toNat_natCast]
  have hL16 : L ≤ 16 := by omega
  have C := rget_any b hb v
  have HC := Lib.hid C
  obtain ⟨i0, hi, hz0, hz1, hz2⟩ := info_parts info64
  have HI := Lib.hid hi
  have HZ0 := Lib.hid hz0
  have HZ1 := Lib.hid hz1
  have HZ2 := Lib.hid hz2
  clear hL hcon hbd C hb hi hz0 hz1 hz2
  go_enter Try.func21, Try.ntmps21
  go_wp2_with fail
  go_loopw [5, 6] (fun sv i wr => ∃ k : Nat, k ≤ L ∧ i = .int .i64 k ∧ Gr w wr ∧ wr.heap[w.heap.size]? = some (.cells (bs b) 25 (0, 0)) ∧ wr.ownsRow (w.heap.size + 1) 26 1 sv k (u64s (fun j => getI b v j) k)) (fun _ i _ => L - (intOf i).toNat)
  case atStart => exact ⟨0, by omega, rfl, (Gr.refl _).alloc _ _, heap_alloc_new w _, World.ownsRow_nil _ _ _ _⟩
  case round =>
    obtain ⟨k, hk, rfl, hg, hv, hown⟩ := hrel
    have HG := Lib.hid hg
    have HV := Lib.hid hv
    have HO := Lib.hid hown
    clear hg hv hown
    by_cases hlt : k < L
    · go_upto_region 5 with (go_at_call 12; refine (HK.out _).mono ?_; rintro e w' ⟨rfl, rfl⟩)
      refine wp_region_lit ?_
      go_wp2_with (first | (at_builtin; refine wpList_append_own _ rfl _ _ 34 rfl (w.heap.size + 1) 26 i0 (.int .u64 0) 1 8 Try.underlying34 HI.out HZ0.out HZ1.out HZ2.out rfl (by decide) u5 k _ rfl ((owns_gr HO.out HG1.out).alloc _) ⟨w1.heap.size, 0, none⟩ 1 1 [.int .u64 (getI b v k)] rfl rfl ?c1 ?c2 ?c3 ?c4 ?c5 ?_) | (refine wpList_load_row rfl 25 _ rfl w.heap.size rfl 25 (bs b) (0, 0) _ HV.out Try.underlying25 rfl infoV ?_) | (go_at_call 14; refine (HC.out _ _).mono ?_; rintro e w1 ⟨rfl, hg1⟩; have HG1 := Lib.hid hg1; clear hg1))
      case c1 =>
        intro j u hju
        match j, hju with
        | 0, hju => simp at hju; subst hju; exact (cell_of_row _ _ 0 _ _ _ (heap_alloc_new w1 _)).trans rfl
      case c2 => intro u hu; simp at hu; subst hu; rfl
      case c3 => unfold maxLen; omega
      case c4 => omega
      case c5 => have := HG1.out.size; have := HG.out.size; simp; omega
      intro v' w2 hown2 hgb _
      have hrow : ∀ q, u5.ownBlock = some q → w.heap.size + 1 ≤ q := fun q hq => (HO.out.lt q hq).1
      have hgr : Gr w w2 := (gr_trans HG.out ((HG1.out).allocO _)).grown hgb (fun q hq => by have := hrow q hq; omega)
      have hv2 : w2.heap[w.heap.size]? = some (.cells (bs b) 25 (0, 0)) := by
        have h1 := gr_block ((HG1.out).allocO (.cells #[.int .u64 (getI b v k)] 26)) HV.out
        rw [hgb.block _ (Array.getElem?_eq_some_iff.1 h1).1 (fun e => by have := hrow _ e.symm; omega)]
        exact h1
      have hown3 : w2.ownsRow (w.heap.size + 1) 26 1 v' (k + 1) (u64s (fun j => getI b v j) (k + 1)) := by rw [u64s_succ]; exact hown2
      have H1 := Lib.hid hgr
      have H2 := Lib.hid hv2
      have H3 := Lib.hid hown3
      clear hown2 hgb hrow hgr hv2 hown3
      go_wp2
      exact ⟨⟨k + 1, by omega, by go_num, H1.out, H2.out, H3.out⟩, by simp [intOf]; omega⟩
    · obtain rfl : L = k := by omega
      go_wp2_with (go_at_call 12; refine (HK.out _).mono ?_; rintro e w' ⟨rfl, rfl⟩)
      go_ret
      exact ⟨_, rfl, HG.out, owns_base HO.out (by omega)⟩
/-! ### same: rows that read alike -/
set_option maxHeartbeats 1000000 in
theorem same_some (b off cap b' off' cap' len : Nat) (zs : Nat → Int) (w : World) (hl : len ≤ 9223372036854775807) (hc : ∀ j, j < len → w.cell? ⟨b, off + j, none⟩ = some (.int .u64 (zs j))) (hc' : ∀ j, j < len → w.cell? ⟨b', off' + j, none⟩ = some (.int .u64 (zs j))) :
    Calls Try.prog 19 #[.slice (some ⟨b, off, none⟩) len cap, .slice (some ⟨b', off', none⟩) len cap'] w fun e w' => e = .returned (.bool true) ∧ Gr w w' := by
  have HC := Lib.hid hc
  have HC' := Lib.hid hc'
  clear hc hc'
  go_enter Try.func19, Try.ntmps19
  go_wp2_with fail
  go_loopw [5] (fun i wr => ∃ k : Nat, k ≤ len ∧ i = .int .i64 k ∧ Gr w wr) (fun i _ => len - (intOf i).toNat)
  case atStart => exact ⟨0, by omega, rfl, Gr.refl _⟩
  case round =>
    obtain ⟨k, hk, rfl, hg⟩ := hrel
    have HG := Lib.hid hg
    clear hg
    by_cases hlt : k < len
    · have h1 := gr_cell HG.out (HC.out k hlt)
      have h2 := gr_cell HG.out (HC'.out k hlt)
      go_wp2_with fail
      go_quiet (fail)
      go_wp2
      exact ⟨⟨k + 1, by omega, by go_num, HG.out.drewN _⟩, by simp [intOf]; omega⟩
    · go_wp2
      go_ret
      exact ⟨rfl, HG.out⟩
theorem same_zero (a a' : Option Addr) (c c' : Nat) (w : World) : Calls Try.prog 19 #[.slice a 0 c, .slice a' 0 c'] w fun e w' => e = .returned (.bool true) ∧ Gr w w' := by
  go_enter Try.func19, Try.ntmps19
  go_wp2_with fail
  refine wp_loop_rounds 1 ?_
  rw [rounds_succ]
  go_wp2
  go_ret
  exact ⟨rfl, Gr.refl _⟩
theorem u64s_zero {w : World} {a : Value} {zs : Nat → Int} (h : U64s w a 0 zs) : ∃ x c, a = .slice x 0 c := by
  rcases h with ⟨_, x, c, rfl⟩ | ⟨_, b, o, c, rfl, _⟩
  · exact ⟨_, _, rfl⟩
  · exact ⟨_, _, rfl⟩
theorem same_any {w : World} {a b : Value} {len : Nat} {zs : Nat → Int} (ha : U64s w a len zs) (hb : U64s w b len zs) :
    Calls Try.prog 19 #[a, b] w fun e w' => e = .returned (.bool true) ∧ Gr w w' := by
  by_cases h0 : len = 0
  · subst h0
    obtain ⟨x, c, rfl⟩ := u64s_zero ha
    obtain ⟨x', c', rfl⟩ := u64s_zero hb
    exact same_zero x x' c c' w
  · rcases ha with ⟨h, _⟩ | ⟨hl, b1, o1, c1, rfl, hc1⟩
    · exact absurd h h0
    · rcases hb with ⟨h, _⟩ | ⟨_, b2, o2, c2, rfl, hc2⟩
      · exact absurd h h0
      · exact same_some b1 o1 c1 b2 o2 c2 len zs w hl hc1 hc2
/-! ### types: count, Need, Width -/
def needI (t : Int) : Int := if t = 127 ∨ t = 126 then 1 else if t = 123 then 2 else 0
theorem need_any (t : Int) (w : World) : Calls Try.prog 37 #[.int .i64 t] w fun e w' => e = .returned (.int .i64 (needI t)) ∧ w = w' := by
  by_cases h1 : t = 127
  · subst h1
    go_enter Try.func37, Try.ntmps37
    go_wp2
    go_ret
    exact ⟨rfl, rfl⟩
  · have g1 : (t == 127) = false := beq_eq_false_iff_ne.2 h1
    by_cases h2 : t = 126
    · subst h2
      clear g1 h1
      go_enter Try.func37, Try.ntmps37
      go_wp2
      go_ret
      exact ⟨rfl, rfl⟩
    · have g2 : (t == 126) = false := beq_eq_false_iff_ne.2 h2
      by_cases h3 : t = 123
      · subst h3
        clear g1 g2 h1 h2
        go_enter Try.func37, Try.ntmps37
        go_wp2
        go_ret
        exact ⟨rfl, rfl⟩
      · have g3 : (t == 123) = false := beq_eq_false_iff_ne.2 h3
        rw [show needI t = 0 by unfold needI; rw [if_neg (by omega), if_neg h3]]
        clear h1 h2 h3
        go_enter Try.func37, Try.ntmps37
        go_wp2
        go_ret
        exact ⟨rfl, rfl⟩
/-- how many halves the first k types have -/
def needS (ts : Nat → Int) : Nat → Int
  | 0 => 0
  | k + 1 => needS ts k + needI (ts k)
def okT (ts : Nat → Int) (len : Nat) : Prop := ∀ j, j < len → needI (ts j) ≠ 0
instance (ts : Nat → Int) (len : Nat) : Decidable (okT ts len) := by unfold okT; infer_instance
theorem needI_bd (t : Int) : 0 ≤ needI t ∧ needI t ≤ 2 := by
  unfold needI
  repeat' split
  all_goals omega
theorem needS_bd (ts : Nat → Int) : ∀ k : Nat, 0 ≤ needS ts k ∧ needS ts k ≤ 2 * k
  | 0 => by simp [needS]
  | k + 1 => by
    have := needS_bd ts k
    have := needI_bd (ts k)
    simp only [needS]; omega
/-- a slice of int that reads as ts in the world w -/
def I64s (w : World) (sv : Value) (len : Nat) (zs : Nat → Int) : Prop :=
  (len = 0 ∧ ∃ x c, sv = .slice x 0 c) ∨ (len ≤ 9223372036854775807 ∧ ∃ b off cap, sv = .slice (some ⟨b, off, none⟩) len cap ∧ ∀ j, j < len → w.cell? ⟨b, off + j, none⟩ = some (.int .i64 (zs j)))
theorem i64s_gr {w w' : World} {sv : Value} {len : Nat} {zs : Nat → Int} (h : I64s w sv len zs) (hg : Gr w w') : I64s w' sv len zs := by
  rcases h with h | ⟨hl, b, off, cap, rfl, hc⟩
  · exact .inl h
  · exact .inr ⟨hl, b, off, cap, rfl, fun j hj => gr_cell hg (hc j hj)⟩
theorem i64s_zero {w : World} {a : Value} {zs : Nat → Int} (h : I64s w a 0 zs) : ∃ x c, a = .slice x 0 c := by
  rcases h with ⟨_, x, c, rfl⟩ | ⟨_, b, o, c, rfl, _⟩
  · exact ⟨_, _, rfl⟩
  · exact ⟨_, _, rfl⟩
def cntI (ts : Nat → Int) (len : Nat) : Int := if okT ts len then needS ts len else 0
def cntB (ts : Nat → Int) (len : Nat) : Bool := decide (okT ts len)
theorem cntI_yes {ts : Nat → Int} {len : Nat} (h : okT ts len) : cntI ts len = needS ts len := by unfold cntI; rw [if_pos h]
theorem cntI_no {ts : Nat → Int} {len : Nat} (h : ¬ okT ts len) : cntI ts len = 0 := by unfold cntI; rw [if_neg h]
theorem cntB_yes {ts : Nat → Int} {len : Nat} (h : okT ts len) : cntB ts len = true := decide_eq_true h
theorem cntB_no {ts : Nat → Int} {len : Nat} (h : ¬ okT ts len) : cntB ts len = false := decide_eq_false h
theorem ret_int_bool {a b : Int} {x y : Bool} (h : a = b) (h' : x = y) : Ending.returned (.tuple #[.int .i64 a, .bool x]) = .returned (.tuple #[.int .i64 b, .bool y]) := by rw [h, h']
set_option maxHeartbeats 1000000 in
theorem count_some (b off cap len : Nat) (ts : Nat → Int) (w : World) (hl : len ≤ 1099511627776) (hc : ∀ j, j < len → w.cell? ⟨b, off + j, none⟩ = some (.int .i64 (ts j))) :
    Calls Try.prog 35 #[.slice (some ⟨b, off, none⟩) len cap] w fun e w' => e = .returned (.tuple #[.int .i64 (cntI ts len), .bool (cntB ts len)]) ∧ w = w' := by
  have HC := Lib.hid hc
  clear hc
  go_enter Try.func35, Try.ntmps35
  go_wp2_with fail
  go_loop [4, 9] (fun n i => ∃ k : Nat, k ≤ len ∧ i = .int .i64 k ∧ n = .int .i64 (needS ts k) ∧ okT ts k) (fun _ i => len - (intOf i).toNat)
  case atStart => exact ⟨0, by omega, rfl, rfl, fun j hj => by omega⟩
  case round =>
    obtain ⟨k, hk, rfl, rfl, hok⟩ := hrel
    have HO := Lib.hid hok
    clear hok
    have hb := needS_bd ts k
    have hb2 : needS ts k ≤ 2199023255552 := by omega
    have hb3 := hb.1
    clear hb
    by_cases hlt : k < len
    · have h1 := HC.out k hlt
      generalize ht : ts k = t at *
      have HT := Lib.hid ht
      have hstep : ∀ d, needI t = d → needS ts k + d = needS ts (k + 1) := fun d hd => by simp only [needS]; rw [HT.out, hd]
      have HS := Lib.hid hstep
      have hokk : needI t ≠ 0 → okT ts (k + 1) := fun hn j hj => by
        by_cases hjk : j = k
        · rw [hjk, HT.out]; exact hn
        · exact HO.out j (by omega)
      have HK := Lib.hid hokk
      clear ht hstep hokk
      by_cases c1 : t = 127
      · subst c1
        go_wp2
        exact ⟨⟨k + 1, by omega, by go_num, by rw [← HS.out 1 rfl], HK.out (by decide)⟩, by simp [intOf]; omega⟩
      · have g1 : (t == 127) = false := beq_eq_false_iff_ne.2 c1
        by_cases c2 : t = 126
        · subst c2
          clear c1 g1
          go_wp2
          exact ⟨⟨k + 1, by omega, by go_num, by rw [← HS.out 1 rfl], HK.out (by decide)⟩, by simp [intOf]; omega⟩
        · have g2 : (t == 126) = false := beq_eq_false_iff_ne.2 c2
          by_cases c3 : t = 123
          · subst c3
            clear c1 g1 c2 g2
            go_wp2
            exact ⟨⟨k + 1, by omega, by go_num, by rw [← HS.out 2 rfl], HK.out (by decide)⟩, by simp [intOf]; omega⟩
          · have g3 : (t == 123) = false := beq_eq_false_iff_ne.2 c3
            have hno : ¬ okT ts len := fun hh => hh k hlt (by rw [HT.out]; unfold needI; rw [if_neg (by omega), if_neg c3])
            have HN := Lib.hid hno
            clear c1 c2 c3 hno
            go_wp2
            go_ret2
            exact ⟨ret_int_bool (cntI_no HN.out).symm (cntB_no HN.out).symm, rfl⟩
    · obtain rfl : len = k := by omega
      go_wp2
      go_ret2
      exact ⟨ret_int_bool (cntI_yes HO.out).symm (cntB_yes HO.out).symm, rfl⟩
theorem count_zero (a : Option Addr) (c : Nat) (w : World) :
    Calls Try.prog 35 #[.slice a 0 c] w fun e w' => e = .returned (.tuple #[.int .i64 0, .bool true]) ∧ w = w' := by
  go_enter Try.func35, Try.ntmps35
  go_wp2_with fail
  refine wp_loop_rounds 1 ?_
  rw [rounds_succ]
  go_wp2
  go_ret2
  exact ⟨rfl, rfl⟩
theorem count_any (sv : Value) (len : Nat) (ts : Nat → Int) (w : World) (hl : len ≤ 1099511627776) (h : I64s w sv len ts) :
    Calls Try.prog 35 #[sv] w fun e w' => e = .returned (.tuple #[.int .i64 (cntI ts len), .bool (cntB ts len)]) ∧ w = w' := by
  by_cases h0 : len = 0
  · subst h0
    obtain ⟨x, c, rfl⟩ := i64s_zero h
    have ok : okT ts 0 := fun j hj => by omega
    rw [cntI_yes ok, cntB_yes ok]
    exact count_zero x c w
  · rcases h with ⟨h, _⟩ | ⟨_, b, o, c, rfl, hc⟩
    · exact absurd h h0
    · exact count_some b o c len ts w hl hc
end Go.Proofs.Ythdklnkaeddogab
