/-
  The contracts of the document's All, of the laws' same, and of what asks and tells types: count, Need, Width.
-/
import Derived.Test.YtndbgnkobodjkaaRef2
namespace Go.Proofs.Ytndbgnkobodjkaa
open Go.RowKit VecM
/-! ### same: rows that read alike -/
theorem u64s_zero {w : World} {a : Value} {zs : Nat → Int} (h : U64s w a 0 zs) : ∃ x c, a = .slice x 0 c := by
  rcases h with ⟨_, x, c, rfl⟩ | ⟨_, b, o, c, rfl, _⟩
  · exact ⟨_, _, rfl⟩
  · exact ⟨_, _, rfl⟩
/-! ### types: count, Need, Width -/
def needI (t : Int) : Int := if t = 127 ∨ t = 126 then 1 else if t = 123 then 2 else 0
theorem need_any (t : Int) (w : World) : Calls Try.prog 34 #[.int .i64 t] w fun e w' => e = .returned (.int .i64 (needI t)) ∧ w = w' := by
  by_cases h1 : t = 127
  · subst h1
    go_enter Try.func34, Try.ntmps34
    go_wp2
    go_ret
    exact ⟨rfl, rfl⟩
  · have g1 : (t == 127) = false := beq_eq_false_iff_ne.2 h1
    by_cases h2 : t = 126
    · subst h2
      clear g1 h1
      go_enter Try.func34, Try.ntmps34
      go_wp2
      go_ret
      exact ⟨rfl, rfl⟩
    · have g2 : (t == 126) = false := beq_eq_false_iff_ne.2 h2
      by_cases h3 : t = 123
      · subst h3
        clear g1 g2 h1 h2
        go_enter Try.func34, Try.ntmps34
        go_wp2
        go_ret
        exact ⟨rfl, rfl⟩
      · have g3 : (t == 123) = false := beq_eq_false_iff_ne.2 h3
        rw [show needI t = 0 by unfold needI; rw [if_neg (by omega), if_neg h3]]
        clear h1 h2 h3
        go_enter Try.func34, Try.ntmps34
        go_wp2
        go_ret
        exact ⟨rfl, rfl⟩
/-- how many halves the first k types have -/
def needS (ts : Nat → Int) : Nat → Int
  | 0 => 0
  | k + 1 => needS ts k + needI (ts k)
def okT (ts : Nat → Int) (len : Nat) : Prop := ∀ j, j < len → needI (ts j) ≠ 0
instance (ts : Nat → Int) (len : Nat) : Decidable (okT ts len) := by unfold okT; infer_instance
theorem needI_bd (t : Int) : 0 ≤ needI t ∧ needI t ≤ 2 := by
  unfold needI
  repeat' split
  all_goals omega
theorem needS_bd (ts : Nat → Int) : ∀ k : Nat, 0 ≤ needS ts k ∧ needS ts k ≤ 2 * k
  | 0 => by simp [needS]
  | k + 1 => by
    have := needS_bd ts k
    have := needI_bd (ts k)
    simp only [needS]; omega
/-- a slice of int that reads as ts in the world w -/
def I64s (w : World) (sv : Value) (len : Nat) (zs : Nat → Int) : Prop :=
  (len = 0 ∧ ∃ x c, sv = .slice x 0 c) ∨ (len ≤ 9223372036854775807 ∧ ∃ b off cap, sv = .slice (some ⟨b, off, none⟩) len cap ∧ ∀ j, j < len → w.cell? ⟨b, off + j, none⟩ = some (.int .i64 (zs j)))
theorem i64s_gr {w w' : World} {sv : Value} {len : Nat} {zs : Nat → Int} (h : I64s w sv len zs) (hg : Gr w w') : I64s w' sv len zs := by
  rcases h with h | ⟨hl, b, off, cap, rfl, hc⟩
  · exact .inl h
  · exact .inr ⟨hl, b, off, cap, rfl, fun j hj => gr_cell hg (hc j hj)⟩
theorem i64s_zero {w : World} {a : Value} {zs : Nat → Int} (h : I64s w a 0 zs) : ∃ x c, a = .slice x 0 c := by
  rcases h with ⟨_, x, c, rfl⟩ | ⟨_, b, o, c, rfl, _⟩
  · exact ⟨_, _, rfl⟩
  · exact ⟨_, _, rfl⟩
def cntI (ts : Nat → Int) (len : Nat) : Int := if okT ts len then needS ts len else 0
def cntB (ts : Nat → Int) (len : Nat) : Bool := decide (okT ts len)
theorem cntI_yes {ts : Nat → Int} {len : Nat} (h : okT ts len) : cntI ts len = needS ts len := by unfold cntI; rw [if_pos h]
theorem cntI_no {ts : Nat → Int} {len : Nat} (h : ¬ okT ts len) : cntI ts len = 0 := by unfold cntI; rw [if_neg h]
theorem cntB_yes {ts : Nat → Int} {len : Nat} (h : okT ts len) : cntB ts len = true := decide_eq_true h
theorem cntB_no {ts : Nat → Int} {len : Nat} (h : ¬ okT ts len) : cntB ts len = false := decide_eq_false h
theorem ret_int_bool {a b : Int} {x y : Bool} (h : a = b) (h' : x = y) : Ending.returned (.tuple #[.int .i64 a, .bool x]) = .returned (.tuple #[.int .i64 b, .bool y]) := by rw [h, h']
set_option maxHeartbeats 1000000 in
theorem count_some (b off cap len : Nat) (ts : Nat → Int) (w : World) (hl : len ≤ 1099511627776) (hc : ∀ j, j < len → w.cell? ⟨b, off + j, none⟩ = some (.int .i64 (ts j))) :
    Calls Try.prog 42 #[.slice (some ⟨b, off, none⟩) len cap] w fun e w' => e = .returned (.tuple #[.int .i64 (cntI ts len), .bool (cntB ts len)]) ∧ w = w' := by
  have HC := Lib.hid hc
  clear hc
  go_enter Try.func42, Try.ntmps42
  go_wp2_with fail
  go_loop [4, 9] (fun n i => ∃ k : Nat, k ≤ len ∧ i = .int .i64 k ∧ n = .int .i64 (needS ts k) ∧ okT ts k) (fun _ i => len - (intOf i).toNat)
  case atStart => exact ⟨0, by omega, rfl, rfl, fun j hj => by omega⟩
  case round =>
    obtain ⟨k, hk, rfl, rfl, hok⟩ := hrel
    have HO := Lib.hid hok
    clear hok
    have hb := needS_bd ts k
    have hb2 : needS ts k ≤ 2199023255552 := by omega
    have hb3 := hb.1
    clear hb
    by_cases hlt : k < len
    · have h1 := HC.out k hlt
      generalize ht : ts k = t at *
      have HT := Lib.hid ht
      have hstep : ∀ d, needI t = d → needS ts k + d = needS ts (k + 1) := fun d hd => by simp only [needS]; rw [HT.out, hd]
      have HS := Lib.hid hstep
      have hokk : needI t ≠ 0 → okT ts (k + 1) := fun hn j hj => by
        by_cases hjk : j = k
        · rw [hjk, HT.out]; exact hn
        · exact HO.out j (by omega)
      have HK := Lib.hid hokk
      clear ht hstep hokk
      by_cases c1 : t = 127
      · subst c1
        go_wp2
        exact ⟨⟨k + 1, by omega, by go_num, by rw [← HS.out 1 rfl], HK.out (by decide)⟩, by simp [intOf]; omega⟩
      · have g1 : (t == 127) = false := beq_eq_false_iff_ne.2 c1
        by_cases c2 : t = 126
        · subst c2
          clear c1 g1
          go_wp2
          exact ⟨⟨k + 1, by omega, by go_num, by rw [← HS.out 1 rfl], HK.out (by decide)⟩, by simp [intOf]; omega⟩
        · have g2 : (t == 126) = false := beq_eq_false_iff_ne.2 c2
          by_cases c3 : t = 123
          · subst c3
            clear c1 g1 c2 g2
            go_wp2
            exact ⟨⟨k + 1, by omega, by go_num, by rw [← HS.out 2 rfl], HK.out (by decide)⟩, by simp [intOf]; omega⟩
          · have g3 : (t == 123) = false := beq_eq_false_iff_ne.2 c3
            have hno : ¬ okT ts len := fun hh => hh k hlt (by rw [HT.out]; unfold needI; rw [if_neg (by omega), if_neg c3])
            have HN := Lib.hid hno
            clear c1 c2 c3 hno
            go_wp2
            go_ret2
            exact ⟨ret_int_bool (cntI_no HN.out).symm (cntB_no HN.out).symm, rfl⟩
    · obtain rfl : len = k := by omega
      go_wp2
      go_ret2
      exact ⟨ret_int_bool (cntI_yes HO.out).symm (cntB_yes HO.out).symm, rfl⟩
theorem count_zero (a : Option Addr) (c : Nat) (w : World) :
    Calls Try.prog 42 #[.slice a 0 c] w fun e w' => e = .returned (.tuple #[.int .i64 0, .bool true]) ∧ w = w' := by
  go_enter Try.func42, Try.ntmps42
  go_wp2_with fail
  refine wp_loop_rounds 1 ?_
  rw [rounds_succ]
  go_wp2
  go_ret2
  exact ⟨rfl, rfl⟩
theorem count_any (sv : Value) (len : Nat) (ts : Nat → Int) (w : World) (hl : len ≤ 1099511627776) (h : I64s w sv len ts) :
    Calls Try.prog 42 #[sv] w fun e w' => e = .returned (.tuple #[.int .i64 (cntI ts len), .bool (cntB ts len)]) ∧ w = w' := by
  by_cases h0 : len = 0
  · subst h0
    obtain ⟨x, c, rfl⟩ := i64s_zero h
    have ok : okT ts 0 := fun j hj => by omega
    rw [cntI_yes ok, cntB_yes ok]
    exact count_zero x c w
  · rcases h with ⟨h, _⟩ | ⟨_, b, o, c, rfl, hc⟩
    · exact absurd h h0
    · exact count_some b o c len ts w hl hc
end Go.Proofs.Ytndbgnkobodjkaa
