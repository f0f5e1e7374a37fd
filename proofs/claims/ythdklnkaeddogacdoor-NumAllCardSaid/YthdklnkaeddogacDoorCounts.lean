/-
  NumCounts: for every x the law returns true, where the listed tables of math/bits lie in memory (the row's own premise, tied by the card). No other condition.
-/
import Derived.Test.YthdklnkaeddogacDoorCtF
namespace Go.Proofs.YthdklnkaeddogacDoor
open Go.RowKit NumM Un Un2
namespace Co
/-! ### the walk -/
theorem ones105 (m : Nat) (_ : m < 18446744073709551616) : unW 105 (m : Int) = (Lib.popAux 32 (m % 2 ^ 32) : Int) := w105 m
theorem ones123 (m : Nat) (h : m < 18446744073709551616) : unW 123 (m : Int) = (Lib.popAux 64 (m % 2 ^ 64) : Int) := by rw [w123, Nat.mod_eq_of_lt (show m < 2 ^ 64 from h)]
set_option maxRecDepth 100000 in
set_option maxHeartbeats 2000000 in
theorem counts_walk (n : Nat) (hn : n < 18446744073709551616) (w : World) (hT : Tabs w) :
    Calls Tryd.prog 7 #[.int .u64 n] w fun e w' => e = .returned (.bool true) ∧ Grown w w' := by
  have hx : U64 (n : Int) := ⟨by omega, by omega⟩
  have HT := Lib.hid hT
  have HX := Lib.hid hx
  have HN := Lib.hid hn
  clear hT hx hn
  go_enter Tryd.func7, Tryd.ntmps7
  go_wp2_with fail
  refine (Cu.awake_acc (Grown.refl w)).mono ?_
  rintro e w1 ⟨rfl, hg1⟩
  go_wp2_with fail
  go_loopw [3] (fun i wr => ∃ k : Int, 0 ≤ k ∧ k ≤ 2 ∧ i = .int .i64 k ∧ Grown w wr) (fun i _ => (2 - intOf i).toNat)
  case atStart => exact ⟨0, by omega, by omega, rfl, hg1⟩
  case round =>
    obtain ⟨k, hk0, hk, rfl, hgk⟩ := hrel
    clear hg1
    obtain rfl | rfl | rfl : k = 0 ∨ k = 1 ∨ k = 2 := by omega
    · clear hk0 hk
      obtain ⟨c, hc⟩ : ∃ c : Nat, c = n % 2 ^ 32 := ⟨_, rfl⟩
      have hcut : IntKind.u64.wrap ((n : Int) * 4294967296) / 4294967296 = (c : Int) := by rw [IntKind.wrap_u64]; omega
      have v1 := w103 n
      have v2 := w104 n
      have v3 := w105 n
      rw [show n % 4294967296 = c from hc.symm] at v1 v2 v3
      by_cases hc0 : c = 0
      · subst hc0
        rw [show (32 : Int) - (Lib.bitLen 0 : Int) = 32 by decide +kernel] at v1
        rw [show (Lib.ctz 32 0 : Int) = 32 by decide +kernel] at v2
        rw [show (Lib.popAux 32 0 : Int) = 0 by decide +kernel] at v3
        clear hc
        go_wp2_with (go_at_call 16; refine (un2_acc _ _ (is2 _ (by decide)) HX.out HT.out (by assumption)).mono ?_; rintro e w' ⟨rfl, hg⟩)
        exact ⟨⟨1, by decide, by decide, rfl, by assumption⟩, by simp [intOf]⟩
      · have hcz : ((c : Int) == 0) = false := beq_eq_false_iff_ne.2 (by omega)
        have hcb : (c : Int) ≤ 4294967295 := by omega
        have hc1 : 1 ≤ (c : Int) := by omega
        have F := facts 32 n c (Or.inl rfl) HN.out hc (by omega) (unW 105) ones105
        have v1' : unW 103 (n : Int) = ((32 : Nat) : Int) - (Lib.bitLen c : Int) := v1
        obtain ⟨a, ha⟩ : ∃ a, ((32 : Nat) : Int) - (Lib.bitLen c : Int) = a := ⟨_, rfl⟩
        obtain ⟨t, ht⟩ : ∃ a, (Lib.ctz 32 c : Int) = a := ⟨_, rfl⟩
        obtain ⟨o, ho⟩ : ∃ a, (Lib.popAux 32 c : Int) = a := ⟨_, rfl⟩
        rw [ha, ht, ho] at F
        rw [ha] at v1'
        rw [ht] at v2
        rw [ho] at v3
        obtain ⟨⟨b1, b2, b3, b4, b5, b6, b7⟩, e1, e2, e3, ⟨m1, hm1, hb1, hv1⟩, ⟨m2, hm2, hb2, hv2⟩, ⟨m3, hm3, hb3, hv3⟩⟩ := F
        have e1' : (c : Int) / 2 ^ (31 - a).toNat = 1 := by rw [show (31 : Int) - a = ((32 : Nat) : Int) - 1 - a by omega]; exact e1
        have hv2' : unW 105 (m2 : Int) = 32 - o := hv2
        have b2' : a < 32 := b2
        have b4' : t < 32 := b4
        have b6' : o ≤ 32 := b6
        have b7' : a + t < 32 := b7
        have HB1 := Lib.hid hb1
        have HB2 := Lib.hid hb2
        have HB3 := Lib.hid hb3
        clear hc hc0 v1 ha ht ho e1 hv2 hb1 hb2 hb3 b2 b4 b6 b7
        go_wp2_with (go_at_call 16; refine (un2_acc _ _ (is2 _ (by decide)) (by first | exact HX.out | exact HB1.out | exact HB2.out | exact HB3.out) HT.out (by assumption)).mono ?_; rintro e w' ⟨rfl, hg⟩)
        exact ⟨⟨1, by decide, by decide, rfl, by assumption⟩, by simp [intOf]⟩
    · clear hk0 hk
      obtain ⟨c, hc⟩ : ∃ c : Nat, c = n % 2 ^ 64 := ⟨_, rfl⟩
      have hcn : n = c := by rw [hc]; exact (Nat.mod_eq_of_lt HN.out).symm
      have hcut : IntKind.u64.wrap (n : Int) = (c : Int) := by rw [wrap_nat n HN.out, hcn]
      have v1 : unW 121 (n : Int) = 64 - (Lib.bitLen c : Int) := by rw [← hcn]; exact w121 n
      have v2 : unW 122 (n : Int) = (Lib.ctz 64 c : Int) := by rw [← hcn]; exact w122 n
      have v3 : unW 123 (n : Int) = (Lib.popAux 64 c : Int) := by rw [← hcn]; exact w123 n
      by_cases hc0 : c = 0
      · have hz : ((c : Int) == 0) = true := beq_iff_eq.2 (by omega)
        rw [hc0, show (64 : Int) - (Lib.bitLen 0 : Int) = 64 by decide +kernel] at v1
        rw [hc0, show (Lib.ctz 64 0 : Int) = 64 by decide +kernel] at v2
        rw [hc0, show (Lib.popAux 64 0 : Int) = 0 by decide +kernel] at v3
        clear hc0 hc hcn
        go_wp2_with (go_at_call 16; refine (un2_acc _ _ (is2 _ (by decide)) HX.out HT.out (by assumption)).mono ?_; rintro e w' ⟨rfl, hg⟩)
        exact ⟨⟨2, by decide, by decide, rfl, by assumption⟩, by simp [intOf]⟩
      · have hcz : ((c : Int) == 0) = false := beq_eq_false_iff_ne.2 (by omega)
        have hc1 : 1 ≤ (c : Int) := by omega
        have hcb : (c : Int) ≤ 18446744073709551615 := by have := HN.out; omega
        have F := facts 64 n c (Or.inr rfl) HN.out hc (by omega) (unW 123) ones123
        have v1' : unW 121 (n : Int) = ((64 : Nat) : Int) - (Lib.bitLen c : Int) := v1
        obtain ⟨a, ha⟩ : ∃ a, ((64 : Nat) : Int) - (Lib.bitLen c : Int) = a := ⟨_, rfl⟩
        obtain ⟨t, ht⟩ : ∃ a, (Lib.ctz 64 c : Int) = a := ⟨_, rfl⟩
        obtain ⟨o, ho⟩ : ∃ a, (Lib.popAux 64 c : Int) = a := ⟨_, rfl⟩
        rw [ha, ht, ho] at F
        rw [ha] at v1'
        rw [ht] at v2
        rw [ho] at v3
        obtain ⟨⟨b1, b2, b3, b4, b5, b6, b7⟩, e1, e2, e3, ⟨m1, hm1, hb1, hv1⟩, ⟨m2, hm2, hb2, hv2⟩, ⟨m3, hm3, hb3, hv3⟩⟩ := F
        have e1' : (c : Int) / 2 ^ (63 - a).toNat = 1 := by rw [show (63 : Int) - a = ((64 : Nat) : Int) - 1 - a by omega]; exact e1
        have hv2' : unW 123 (m2 : Int) = 64 - o := hv2
        have b2' : a < 64 := b2
        have b4' : t < 64 := b4
        have b6' : o ≤ 64 := b6
        have b7' : a + t < 64 := b7
        have HB1 := Lib.hid hb1
        have HB2 := Lib.hid hb2
        have HB3 := Lib.hid hb3
        clear hc hcn hc0 v1 ha ht ho e1 hv2 hb1 hb2 hb3 b2 b4 b6 b7
        go_wp2_with (go_at_call 16; refine (un2_acc _ _ (is2 _ (by decide)) (by first | exact HX.out | exact HB1.out | exact HB2.out | exact HB3.out) HT.out (by assumption)).mono ?_; rintro e w' ⟨rfl, hg⟩)
        exact ⟨⟨2, by decide, by decide, rfl, by assumption⟩, by simp [intOf]⟩
    · go_wp2
      go_ret
      exact ⟨rfl, by assumption⟩
end Co
end Go.Proofs.YthdklnkaeddogacDoor
