/-
  The reference's Width: how many halves the types need; -1, if one of them is none.
-/
import Derived.Test.YtndbgnkobodjkaaAwake
namespace Go.Proofs.Ytndbgnkobodjkaa
open Go.RowKit VecM
/-- what Width gives -/
def widI (ts : Nat → Int) (len : Nat) : Int := if okT ts len then needS ts len else -1
theorem widI_yes {ts : Nat → Int} {len : Nat} (h : okT ts len) : widI ts len = needS ts len := by unfold widI; rw [if_pos h]
theorem widI_no {ts : Nat → Int} {len : Nat} (h : ¬ okT ts len) : widI ts len = -1 := by unfold widI; rw [if_neg h]
theorem width_some (b off cap len : Nat) (ts : Nat → Int) (w : World) (hl : len ≤ 1099511627776) (hc : ∀ j, j < len → w.cell? ⟨b, off + j, none⟩ = some (.int .i64 (ts j))) :
    Calls Try.prog 31 #[.slice (some ⟨b, off, none⟩) len cap] w fun e w' => e = .returned (.int .i64 (widI ts len)) ∧ w = w' := by
  have HC := Lib.hid hc
  clear hc
  go_enter Try.func31, Try.ntmps31
  go_wp2_with fail
  go_loop [3, 4] (fun n i => ∃ k : Nat, k ≤ len ∧ i = .int .i64 k ∧ n = .int .i64 (needS ts k) ∧ okT ts k) (fun _ i => len - (intOf i).toNat)
  case atStart => exact ⟨0, by omega, rfl, rfl, fun j hj => by omega⟩
  case round =>
    obtain ⟨k, hk, rfl, rfl, hok⟩ := hrel
    have HO := Lib.hid hok
    clear hok
    have hb := needS_bd ts k
    have hb2 : needS ts k ≤ 2199023255552 := by omega
    have hb3 := hb.1
    clear hb
    by_cases hlt : k < len
    · have h1 := HC.out k hlt
      have hbd := needI_bd (ts k)
      have HNd := Lib.hid (need_any (ts k))
      have HS := Lib.hid (show needS ts k + needI (ts k) = needS ts (k + 1) from rfl)
      have HK := Lib.hid (show needI (ts k) ≠ 0 → okT ts (k + 1) from fun hn j hj => by
        by_cases hjk : j = k
        · rw [hjk]; exact hn
        · exact HO.out j (by omega))
      have HZ := Lib.hid (show needI (ts k) = 0 → ¬ okT ts len from fun hz hh => hh k hlt hz)
      generalize needI (ts k) = d at *
      generalize ts k = t at *
      by_cases c1 : d = 0
      · subst c1
        have HN := Lib.hid (HZ.out rfl)
        clear hbd
        go_wp2_with (go_at_call 34; refine (HNd.out _).mono ?_; rintro e w' ⟨rfl, rfl⟩)
        go_ret
        exact ⟨ret_eq (congrArg (Value.int .i64) (widI_no HN.out).symm), rfl⟩
      · have g1 : (d == 0) = false := beq_eq_false_iff_ne.2 c1
        have hd0 := hbd.1
        have hd1 := hbd.2
        clear hbd
        go_wp2_with (go_at_call 34; refine (HNd.out _).mono ?_; rintro e w' ⟨rfl, rfl⟩)
        exact ⟨⟨k + 1, by omega, by go_num, by rw [← HS.out], HK.out c1⟩, by simp [intOf]; omega⟩
    · obtain rfl : len = k := by omega
      go_wp2
      go_ret
      exact ⟨ret_eq (congrArg (Value.int .i64) (widI_yes HO.out).symm), rfl⟩
theorem width_zero (a : Option Addr) (c : Nat) (w : World) :
    Calls Try.prog 31 #[.slice a 0 c] w fun e w' => e = .returned (.int .i64 0) ∧ w = w' := by
  go_enter Try.func31, Try.ntmps31
  go_wp2_with fail
  refine wp_loop_rounds 1 ?_
  rw [rounds_succ]
  go_wp2
  go_ret
  exact ⟨rfl, rfl⟩
theorem width_any (sv : Value) (len : Nat) (ts : Nat → Int) (w : World) (hl : len ≤ 1099511627776) (h : I64s w sv len ts) :
    Calls Try.prog 31 #[sv] w fun e w' => e = .returned (.int .i64 (widI ts len)) ∧ w = w' := by
  by_cases h0 : len = 0
  · subst h0
    obtain ⟨x, c, rfl⟩ := i64s_zero h
    have ok : okT ts 0 := fun j hj => by omega
    rw [widI_yes ok]
    exact width_zero x c w
  · rcases h with ⟨h, _⟩ | ⟨_, b, o, c, rfl, hc⟩
    · exact absurd h h0
    · exact width_some b o c len ts w hl hc
end Go.Proofs.Ytndbgnkobodjkaa
