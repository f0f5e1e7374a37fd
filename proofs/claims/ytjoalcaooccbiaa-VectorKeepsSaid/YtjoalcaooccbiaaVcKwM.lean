/-
 Of layer 9: VectorKeeps, of every opcode. Condition: the library's variable reads as some number. (gen_vckw.py)
-/
import Derived.Test.YtjoalcaooccbiaaVcKpM
import Derived.Test.YtjoalcaooccbiaaMk6
namespace Go.Proofs.Ytjoalcaooccbiaa
open Go.RowKit VecM Ev
namespace Vc
theorem ns {m : Int} {t : Gt} (n f l : Int) (s : ByteArray) (h : n < 64768) (hf : (f == 0) = false) (hs : (decide (s.size < 1000) && decide ((Ins.cutA s).size ≤ 1000) && decide ((Ins.cutB s).size ≤ 1000)) = true) (hr : ∀ w, Calls Try.prog 28 #[.int .i64 n] w (Ins.RES f l s w)) : DoNo m t n := by
 simp only [Bool.and_eq_true, decide_eq_true_eq] at hs
 exact no_sca (q := ⟨n, f, l, s⟩) h ⟨hf, hs.1.1, hs.1.2, hs.2, .inr ⟨h, hr⟩⟩
theorem nn {m : Int} {t : Gt} (n l : Int) (s : ByteArray) (h : n < 64768) (hr : ∀ w, Calls Try.prog 28 #[.int .i64 n] w (Ins.RES 0 l s w)) : DoNo m t n := no_un (.inr ⟨h, l, s, hr⟩)
theorem sca_any (m : Int) (t : Gt) (op : Int) (h : op < 64768) : DoNo m t op := by
 by_cases h0_68 : op < 50
 ·by_cases h0_34 : op < 27
  ·by_cases h0_17 : op < 11
   ·by_cases h0_8 : op < 3
    ·by_cases h0_4 : op < 1
     ·by_cases h0_2 : op < 0
      ·exact nn op 0 ⟨#[]⟩ (by omega) (fun w => Ins.top_control0 op 0 0 _ (by omega) (fun w => Ins.control_0 op (by omega) w) w)
      ·obtain rfl : op = 0 := by omega
       exact ns 0 1 0 ⟨#[]⟩ (by omega) (by decide) (by decide +kernel) (fun w => Ins.top_control0 0 1 0 _ (by omega) (fun w => Ins.control_1 w) w)
     ·by_cases h2_4 : op < 2
      ·obtain rfl : op = 1 := by omega
       exact ns 1 1 0 ⟨#[58]⟩ (by omega) (by decide) (by decide +kernel) (fun w => Ins.top_control0 1 1 0 _ (by omega) (fun w => Ins.control_2 w) w)
      ·obtain rfl : op = 2 := by omega
       exact ns 2 2 0 ⟨#[]⟩ (by omega) (by decide) (by decide +kernel) (fun w => Ins.top_control0 2 2 0 _ (by omega) (fun w => Ins.control_3 w) w)
    ·by_cases h4_8 : op < 5
     ·by_cases h4_6 : op < 4
      ·obtain rfl : op = 3 := by omega
       exact ns 3 2 0 ⟨#[]⟩ (by omega) (by decide) (by decide +kernel) (fun w => Ins.top_control0 3 2 0 _ (by omega) (fun w => Ins.control_4 w) w)
      ·obtain rfl : op = 4 := by omega
       exact ns 4 2 0 ⟨#[]⟩ (by omega) (by decide) (by decide +kernel) (fun w => Ins.top_control0 4 2 0 _ (by omega) (fun w => Ins.control_5 w) w)
     ·by_cases h6_8 : op < 6
      ·obtain rfl : op = 5 := by omega
       exact ns 5 1 0 ⟨#[]⟩ (by omega) (by decide) (by decide +kernel) (fun w => Ins.top_control0 5 1 0 _ (by omega) (fun w => Ins.control_6 w) w)
      ·exact nn op 0 ⟨#[]⟩ (by omega) (fun w => Ins.top_control0 op 0 0 _ (by omega) (fun w => Ins.control_7 op (by omega) (by omega) w) w)
   ·by_cases h8_17 : op < 15
    ·by_cases h8_12 : op < 13
     ·by_cases h8_10 : op < 12
      ·obtain rfl : op = 11 := by omega
       exact ns 11 1 0 ⟨#[]⟩ (by omega) (by decide) (by decide +kernel) (fun w => Ins.top_control0 11 1 0 _ (by omega) (fun w => Ins.control_8 w) w)
      ·obtain rfl : op = 12 := by omega
       exact ns 12 3 0 ⟨#[]⟩ (by omega) (by decide) (by decide +kernel) (fun w => Ins.top_control0 12 3 0 _ (by omega) (fun w => Ins.control_9 w) w)
     ·by_cases h10_12 : op < 14
      ·obtain rfl : op = 13 := by omega
       exact ns 13 3 0 ⟨#[]⟩ (by omega) (by decide) (by decide +kernel) (fun w => Ins.top_control0 13 3 0 _ (by omega) (fun w => Ins.control_10 w) w)
      ·obtain rfl : op = 14 := by omega
       exact ns 14 4 0 ⟨#[]⟩ (by omega) (by decide) (by decide +kernel) (fun w => Ins.top_control0 14 4 0 _ (by omega) (fun w => Ins.control_11 w) w)
    ·by_cases h12_17 : op < 17
     ·by_cases h12_14 : op < 16
      ·obtain rfl : op = 15 := by omega
       exact ns 15 1 0 ⟨#[]⟩ (by omega) (by decide) (by decide +kernel) (fun w => Ins.top_control0 15 1 0 _ (by omega) (fun w => Ins.control_12 w) w)
      ·obtain rfl : op = 16 := by omega
       exact ns 16 5 0 ⟨#[]⟩ (by omega) (by decide) (by decide +kernel) (fun w => Ins.top_control0 16 5 0 _ (by omega) (fun w => Ins.control_13 w) w)
     ·by_cases h14_17 : op < 18
      ·obtain rfl : op = 17 := by omega
       exact ns 17 6 0 ⟨#[]⟩ (by omega) (by decide) (by decide +kernel) (fun w => Ins.top_control0 17 6 0 _ (by omega) (fun w => Ins.control_14 w) w)
      ·by_cases h15_17 : op < 26
       ·exact nn op 0 ⟨#[]⟩ (by omega) (fun w => Ins.top_control0 op 0 0 _ (by omega) (fun w => Ins.control_15 op (by omega) (by omega) w) w)
       ·obtain rfl : op = 26 := by omega
        exact ns 26 1 0 ⟨#[]⟩ (by omega) (by decide) (by decide +kernel) (fun w => Ins.top_control0 26 1 0 _ (by omega) (fun w => Ins.control_16 w) w)
  ·by_cases h17_34 : op < 40
   ·by_cases h17_25 : op < 34
    ·by_cases h17_21 : op < 32
     ·by_cases h17_19 : op < 28
      ·obtain rfl : op = 27 := by omega
       exact ns 27 1 0 ⟨#[]⟩ (by omega) (by decide) (by decide +kernel) (fun w => Ins.top_control0 27 1 0 _ (by omega) (fun w => Ins.control_17 w) w)
      ·exact nn op 0 ⟨#[]⟩ (by omega) (fun w => Ins.top_control0 op 0 0 _ (by omega) (fun w => Ins.control_18 op (by omega) (by omega) w) w)
     ·by_cases h19_21 : op < 33
      ·obtain rfl : op = 32 := by omega
       exact ns 32 5 0 ⟨#[]⟩ (by omega) (by decide) (by decide +kernel) (fun w => Ins.top_control0 32 5 0 _ (by omega) (fun w => Ins.control_19 w) w)
      ·obtain rfl : op = 33 := by omega
       exact ns 33 5 0 ⟨#[]⟩ (by omega) (by decide) (by decide +kernel) (fun w => Ins.top_control0 33 5 0 _ (by omega) (fun w => Ins.control_20 w) w)
    ·by_cases h21_25 : op < 36
     ·by_cases h21_23 : op < 35
      ·obtain rfl : op = 34 := by omega
       exact ns 34 5 0 ⟨#[]⟩ (by omega) (by decide) (by decide +kernel) (fun w => Ins.top_control0 34 5 0 _ (by omega) (fun w => Ins.control_21 w) w)
      ·obtain rfl : op = 35 := by omega
       exact ns 35 5 0 ⟨#[]⟩ (by omega) (by decide) (by decide +kernel) (fun w => Ins.top_control0 35 5 0 _ (by omega) (fun w => Ins.control_22 w) w)
     ·by_cases h23_25 : op < 37
      ·obtain rfl : op = 36 := by omega
       exact ns 36 5 0 ⟨#[]⟩ (by omega) (by decide) (by decide +kernel) (fun w => Ins.top_control0 36 5 0 _ (by omega) (fun w => Ins.control_23 w) w)
      ·exact nn op 0 ⟨#[]⟩ (by omega) (fun w => Ins.top_control0 op 0 0 _ (by omega) (fun w => Ins.control_24 op (by omega) (by omega) w) w)
   ·by_cases h25_34 : op < 45
    ·by_cases h25_29 : op < 42
     ·by_cases h25_27 : op < 41
      ·obtain rfl : op = 40 := by omega
       exact ns 40 7 2 ⟨#[105, 58, 105]⟩ (by omega) (by decide) (by decide +kernel) (fun w => Ins.top_access0 40 7 2 _ (by omega) (by omega) (fun w => Ins.access_0 w) w)
      ·obtain rfl : op = 41 := by omega
       exact ns 41 7 3 ⟨#[105, 58, 108]⟩ (by omega) (by decide) (by decide +kernel) (fun w => Ins.top_access0 41 7 3 _ (by omega) (by omega) (fun w => Ins.access_1 w) w)
     ·by_cases h27_29 : op < 44
      ·exact nn op 0 ⟨#[]⟩ (by omega) (fun w => Ins.top_access0 op 0 0 _ (by omega) (by omega) (fun w => Ins.access_2 op (by omega) (by omega) w) w)
      ·obtain rfl : op = 44 := by omega
       exact ns 44 7 0 ⟨#[105, 58, 105]⟩ (by omega) (by decide) (by decide +kernel) (fun w => Ins.top_access0 44 7 0 _ (by omega) (by omega) (fun w => Ins.access_3 w) w)
    ·by_cases h29_34 : op < 47
     ·by_cases h29_31 : op < 46
      ·obtain rfl : op = 45 := by omega
       exact ns 45 7 0 ⟨#[105, 58, 105]⟩ (by omega) (by decide) (by decide +kernel) (fun w => Ins.top_access0 45 7 0 _ (by omega) (by omega) (fun w => Ins.access_4 w) w)
      ·obtain rfl : op = 46 := by omega
       exact ns 46 7 1 ⟨#[105, 58, 105]⟩ (by omega) (by decide) (by decide +kernel) (fun w => Ins.top_access0 46 7 1 _ (by omega) (by omega) (fun w => Ins.access_5 w) w)
     ·by_cases h31_34 : op < 48
      ·obtain rfl : op = 47 := by omega
       exact ns 47 7 1 ⟨#[105, 58, 105]⟩ (by omega) (by decide) (by decide +kernel) (fun w => Ins.top_access0 47 7 1 _ (by omega) (by omega) (fun w => Ins.access_6 w) w)
      ·by_cases h32_34 : op < 49
       ·obtain rfl : op = 48 := by omega
        exact ns 48 7 0 ⟨#[105, 58, 108]⟩ (by omega) (by decide) (by decide +kernel) (fun w => Ins.top_access0 48 7 0 _ (by omega) (by omega) (fun w => Ins.access_7 w) w)
       ·obtain rfl : op = 49 := by omega
        exact ns 49 7 0 ⟨#[105, 58, 108]⟩ (by omega) (by decide) (by decide +kernel) (fun w => Ins.top_access0 49 7 0 _ (by omega) (by omega) (fun w => Ins.access_8 w) w)
 ·by_cases h34_68 : op < 69
  ·by_cases h34_51 : op < 59
   ·by_cases h34_42 : op < 54
    ·by_cases h34_38 : op < 52
     ·by_cases h34_36 : op < 51
      ·obtain rfl : op = 50 := by omega
       exact ns 50 7 1 ⟨#[105, 58, 108]⟩ (by omega) (by decide) (by decide +kernel) (fun w => Ins.top_access0 50 7 1 _ (by omega) (by omega) (fun w => Ins.access_9 w) w)
      ·obtain rfl : op = 51 := by omega
       exact ns 51 7 1 ⟨#[105, 58, 108]⟩ (by omega) (by decide) (by decide +kernel) (fun w => Ins.top_access0 51 7 1 _ (by omega) (by omega) (fun w => Ins.access_10 w) w)
     ·by_cases h36_38 : op < 53
      ·obtain rfl : op = 52 := by omega
       exact ns 52 7 2 ⟨#[105, 58, 108]⟩ (by omega) (by decide) (by decide +kernel) (fun w => Ins.top_access0 52 7 2 _ (by omega) (by omega) (fun w => Ins.access_11 w) w)
      ·obtain rfl : op = 53 := by omega
       exact ns 53 7 2 ⟨#[105, 58, 108]⟩ (by omega) (by decide) (by decide +kernel) (fun w => Ins.top_access0 53 7 2 _ (by omega) (by omega) (fun w => Ins.access_12 w) w)
    ·by_cases h38_42 : op < 56
     ·by_cases h38_40 : op < 55
      ·obtain rfl : op = 54 := by omega
       exact ns 54 7 2 ⟨#[105, 105, 58]⟩ (by omega) (by decide) (by decide +kernel) (fun w => Ins.top_access0 54 7 2 _ (by omega) (by omega) (fun w => Ins.access_13 w) w)
      ·obtain rfl : op = 55 := by omega
       exact ns 55 7 3 ⟨#[105, 108, 58]⟩ (by omega) (by decide) (by decide +kernel) (fun w => Ins.top_access0 55 7 3 _ (by omega) (by omega) (fun w => Ins.access_14 w) w)
     ·by_cases h40_42 : op < 58
      ·exact nn op 0 ⟨#[]⟩ (by omega) (fun w => Ins.top_access0 op 0 0 _ (by omega) (by omega) (fun w => Ins.access_15 op (by omega) (by omega) w) w)
      ·obtain rfl : op = 58 := by omega
       exact ns 58 7 0 ⟨#[105, 105, 58]⟩ (by omega) (by decide) (by decide +kernel) (fun w => Ins.top_access0 58 7 0 _ (by omega) (by omega) (fun w => Ins.access_16 w) w)
   ·by_cases h42_51 : op < 63
    ·by_cases h42_46 : op < 61
     ·by_cases h42_44 : op < 60
      ·obtain rfl : op = 59 := by omega
       exact ns 59 7 1 ⟨#[105, 105, 58]⟩ (by omega) (by decide) (by decide +kernel) (fun w => Ins.top_access0 59 7 1 _ (by omega) (by omega) (fun w => Ins.access_17 w) w)
      ·obtain rfl : op = 60 := by omega
       exact ns 60 7 0 ⟨#[105, 108, 58]⟩ (by omega) (by decide) (by decide +kernel) (fun w => Ins.top_access0 60 7 0 _ (by omega) (by omega) (fun w => Ins.access_18 w) w)
     ·by_cases h44_46 : op < 62
      ·obtain rfl : op = 61 := by omega
       exact ns 61 7 1 ⟨#[105, 108, 58]⟩ (by omega) (by decide) (by decide +kernel) (fun w => Ins.top_access0 61 7 1 _ (by omega) (by omega) (fun w => Ins.access_19 w) w)
      ·obtain rfl : op = 62 := by omega
       exact ns 62 7 2 ⟨#[105, 108, 58]⟩ (by omega) (by decide) (by decide +kernel) (fun w => Ins.top_access0 62 7 2 _ (by omega) (by omega) (fun w => Ins.access_20 w) w)
    ·by_cases h46_51 : op < 65
     ·by_cases h46_48 : op < 64
      ·obtain rfl : op = 63 := by omega
       exact ns 63 14 0 ⟨#[58, 105]⟩ (by omega) (by decide) (by decide +kernel) (fun w => Ins.top_63 w)
      ·obtain rfl : op = 64 := by omega
       exact ns 64 14 0 ⟨#[105, 58, 105]⟩ (by omega) (by decide) (by decide +kernel) (fun w => Ins.top_64 w)
     ·by_cases h48_51 : op < 66
      ·obtain rfl : op = 65 := by omega
       exact ns 65 9 0 ⟨#[58, 105]⟩ (by omega) (by decide) (by decide +kernel) (fun w => Ins.top_65 w)
      ·by_cases h49_51 : op < 67
       ·obtain rfl : op = 66 := by omega
        exact ns 66 10 0 ⟨#[58, 108]⟩ (by omega) (by decide) (by decide +kernel) (fun w => Ins.top_66 w)
       ·exact nn op 0 ⟨#[]⟩ (by omega) (fun w => Ins.top_control1 op 0 0 _ (by omega) (by omega) (fun w => Ins.control_25 op (by omega) (by omega) w) w)
  ·by_cases h51_68 : op < 124
   ·by_cases h51_59 : op < 91
    ·by_cases h51_55 : op < 80
     ·by_cases h51_53 : op < 70
      ·obtain rfl : op = 69 := by omega
       exact ns 69 1 0 ⟨#[105, 58, 105]⟩ (by omega) (by decide) (by decide +kernel) (fun w => Ins.top_operator0 69 1 0 _ (by omega) (fun w => Ins.operator_0 w) w)
      ·exact ns op 1 0 ⟨#[105, 105, 58, 105]⟩ (by omega) (by decide) (by decide +kernel) (fun w => Ins.top_operator0 op 1 0 _ (by omega) (fun w => Ins.operator_1 op (by omega) (by omega) w) w)
     ·by_cases h53_55 : op < 81
      ·obtain rfl : op = 80 := by omega
       exact ns 80 1 0 ⟨#[108, 58, 105]⟩ (by omega) (by decide) (by decide +kernel) (fun w => Ins.top_operator0 80 1 0 _ (by omega) (fun w => Ins.operator_2 w) w)
      ·exact ns op 1 0 ⟨#[108, 108, 58, 105]⟩ (by omega) (by decide) (by decide +kernel) (fun w => Ins.top_operator0 op 1 0 _ (by omega) (fun w => Ins.operator_3 op (by omega) (by omega) w) w)
    ·by_cases h55_59 : op < 106
     ·by_cases h55_57 : op < 103
      ·exact nn op 0 ⟨#[]⟩ (by omega) (fun w => Ins.top_operator0 op 0 0 _ (by omega) (fun w => Ins.operator_4 op (by omega) (by omega) w) w)
      ·exact ns op 1 0 ⟨#[105, 58, 105]⟩ (by omega) (by decide) (by decide +kernel) (fun w => Ins.top_operator0 op 1 0 _ (by omega) (fun w => Ins.operator_5 op (by omega) (by omega) w) w)
     ·by_cases h57_59 : op < 121
      ·exact ns op 1 0 ⟨#[105, 105, 58, 105]⟩ (by omega) (by decide) (by decide +kernel) (fun w => Ins.top_operator0 op 1 0 _ (by omega) (fun w => Ins.operator_6 op (by omega) (by omega) w) w)
      ·exact ns op 1 0 ⟨#[108, 58, 108]⟩ (by omega) (by decide) (by decide +kernel) (fun w => Ins.top_operator0 op 1 0 _ (by omega) (fun w => Ins.operator_7 op (by omega) (by omega) w) w)
   ·by_cases h59_68 : op < 172
    ·by_cases h59_63 : op < 167
     ·by_cases h59_61 : op < 139
      ·exact ns op 1 0 ⟨#[108, 108, 58, 108]⟩ (by omega) (by decide) (by decide +kernel) (fun w => Ins.top_operator0 op 1 0 _ (by omega) (fun w => Ins.operator_8 op (by omega) (by omega) w) w)
      ·exact nn op 0 ⟨#[]⟩ (by omega) (fun w => Ins.top_operator0 op 0 0 _ (by omega) (fun w => Ins.operator_9 op (by omega) (by omega) w) w)
     ·by_cases h61_63 : op < 168
      ·obtain rfl : op = 167 := by omega
       exact ns 167 1 0 ⟨#[108, 58, 105]⟩ (by omega) (by decide) (by decide +kernel) (fun w => Ins.top_operator0 167 1 0 _ (by omega) (fun w => Ins.operator_10 w) w)
      ·exact nn op 0 ⟨#[]⟩ (by omega) (fun w => Ins.top_operator0 op 0 0 _ (by omega) (fun w => Ins.operator_11 op (by omega) (by omega) w) w)
    ·by_cases h63_68 : op < 192
     ·by_cases h63_65 : op < 174
      ·exact ns op 1 0 ⟨#[105, 58, 108]⟩ (by omega) (by decide) (by decide +kernel) (fun w => Ins.top_operator0 op 1 0 _ (by omega) (fun w => Ins.operator_12 op (by omega) (by omega) w) w)
      ·exact nn op 0 ⟨#[]⟩ (by omega) (fun w => Ins.top_operator0 op 0 0 _ (by omega) (fun w => Ins.operator_13 op (by omega) (by omega) w) w)
     ·by_cases h65_68 : op < 194
      ·exact ns op 1 0 ⟨#[105, 58, 105]⟩ (by omega) (by decide) (by decide +kernel) (fun w => Ins.top_operator0 op 1 0 _ (by omega) (fun w => Ins.operator_14 op (by omega) (by omega) w) w)
      ·by_cases h66_68 : op < 197
       ·exact ns op 1 0 ⟨#[108, 58, 108]⟩ (by omega) (by decide) (by decide +kernel) (fun w => Ins.top_operator0 op 1 0 _ (by omega) (fun w => Ins.operator_15 op (by omega) (by omega) w) w)
       ·exact nn op 0 ⟨#[]⟩ (by omega) (fun w => Ins.top_operator0 op 0 0 _ (by omega) (fun w => Ins.operator_16 op (by omega) w) w)
theorem bad_any {m : Int} {t : Gt} {op A L H : Int} {n : Nat} {Y : (Nat → Int) → List Int} (D : DoIs m t op A L H n Y false) : DoIs m t op A L H n (fun _ => []) false :=
 ⟨D.1, fun B lv ln lc h x hn ho w hS => (D.2 B lv ln lc h x hn ho w hS).mono fun e w' h => by unfold AnsOr at h ⊢; rw [if_neg (by decide)] at h ⊢; exact h⟩
def KeOk (m : Int) (t : Gt) (op : Int) : Prop := ∀ (A B L H : Int) (lv : Option Addr) (ln lc : Nat) (x0 x1 x2 x3 x4 : Int), inI A = true → ∀ w, SG w [gRow m t] w →
 Calls Try.prog 6 #[ins op A B L H (.slice lv ln lc), .agg ⟨c5 x0 x1 x2 x3 x4⟩] w fun e w' => e = .returned (.bool true) ∧ Gr w w'
theorem ke_none {m : Int} {t : Gt} {op : Int} (K : DoNo m t op) : KeOk m t op := fun A B L H lv ln lc x0 x1 x2 x3 x4 _ w hS => ke_no m t op A B L H lv ln lc x0 x1 x2 x3 x4 K w hS
theorem ke_vec (m : Int) (t : Gt) (op : Int) (p : Pa) (hlo : 64768 ≤ op) (C : ClOk op p) : KeOk m t op := by
 cases p
 ·exact ke_none (no_un C)
 ·obtain ⟨f, l, s, K, h⟩ := C
  exact ke_none (no_mem (by omega) K (by rcases h with h | h | h | h <;> simp [h.1]))
 ·obtain rfl : op = 64780 := C
  exact fun A B L H lv ln lc x0 x1 x2 x3 x4 _ w hS => ke_0_2 m t 64780 A B L H lv ln lc _ _ x0 x1 x2 x3 x4 (is_co m t A L H) w hS
 ·obtain ⟨⟨l, K⟩, hf⟩ := C
  intro A B L H lv ln lc x0 x1 x2 x3 x4 hA w hS
  have D := is_all m t .aun rfl op l A L H hA hf K
  exact ke_2_2 m t op A B L H lv ln lc _ _ x0 x1 x2 x3 x4 D w hS
 ·obtain ⟨⟨l, K⟩, hf⟩ := C
  intro A B L H lv ln lc x0 x1 x2 x3 x4 hA w hS
  have D := is_all m t .wun rfl op l A L H hA hf K
  exact ke_2_2 m t op A B L H lv ln lc _ _ x0 x1 x2 x3 x4 D w hS
 ·obtain ⟨⟨l, K⟩, hf⟩ := C
  intro A B L H lv ln lc x0 x1 x2 x3 x4 hA w hS
  have D := is_all m t .bits77 rfl op l A L H hA hf K
  exact ke_2_2 m t op A B L H lv ln lc _ _ x0 x1 x2 x3 x4 D w hS
 ·obtain ⟨⟨l, K⟩, hf⟩ := C
  intro A B L H lv ln lc x0 x1 x2 x3 x4 hA w hS
  have D := is_all m t .bits78 rfl op l A L H hA hf K
  exact ke_4_2 m t op A B L H lv ln lc _ _ x0 x1 x2 x3 x4 D w hS
 ·obtain ⟨⟨l, K⟩, hf⟩ := C
  intro A B L H lv ln lc x0 x1 x2 x3 x4 hA w hS
  have D := is_all m t .bits79 rfl op l A L H hA hf K
  exact ke_4_2 m t op A B L H lv ln lc _ _ x0 x1 x2 x3 x4 D w hS
 ·obtain ⟨⟨l, K⟩, hf⟩ := C
  intro A B L H lv ln lc x0 x1 x2 x3 x4 hA w hS
  have D := is_all m t .bits80 rfl op l A L H hA hf K
  exact ke_4_2 m t op A B L H lv ln lc _ _ x0 x1 x2 x3 x4 D w hS
 ·obtain ⟨⟨l, K⟩, hf⟩ := C
  intro A B L H lv ln lc x0 x1 x2 x3 x4 hA w hS
  have D := is_all m t .bits81 rfl op l A L H hA hf K
  exact ke_4_2 m t op A B L H lv ln lc _ _ x0 x1 x2 x3 x4 D w hS
 ·obtain ⟨⟨l, K⟩, hf⟩ := C
  intro A B L H lv ln lc x0 x1 x2 x3 x4 hA w hS
  have D := is_all m t .bits82 rfl op l A L H hA hf K
  exact ke_6_2 m t op A B L H lv ln lc _ _ x0 x1 x2 x3 x4 D w hS
 ·obtain ⟨⟨l, K⟩, hf⟩ := C
  intro A B L H lv ln lc x0 x1 x2 x3 x4 hA w hS
  have D := is_all m t .test rfl op l A L H hA hf K
  exact ke_2_1 m t op A B L H lv ln lc _ x0 x1 x2 x3 x4 D w hS
 ·obtain ⟨⟨l, K⟩, hf⟩ := C
  intro A B L H lv ln lc x0 x1 x2 x3 x4 hA w hS
  have D := is_all m t .exi rfl op l A L H hA hf K
  cases hok : okP .exi op A L H with
  | true =>
   rw [hok] at D
   exact ke_2_1 m t op A B L H lv ln lc _ x0 x1 x2 x3 x4 D w hS
  | false =>
   rw [hok] at D
   exact ke_bad_2 m t op A B L H lv ln lc x0 x1 x2 x3 x4 (bad_any D) w hS
 ·obtain ⟨⟨l, K⟩, hf⟩ := C
  intro A B L H lv ln lc x0 x1 x2 x3 x4 hA w hS
  have D := is_all m t .exl rfl op l A L H hA hf K
  cases hok : okP .exl op A L H with
  | true =>
   rw [hok] at D
   exact ke_2_1 m t op A B L H lv ln lc _ x0 x1 x2 x3 x4 D w hS
  | false =>
   rw [hok] at D
   exact ke_bad_2 m t op A B L H lv ln lc x0 x1 x2 x3 x4 (bad_any D) w hS
 ·obtain ⟨⟨l, K⟩, hf⟩ := C
  intro A B L H lv ln lc x0 x1 x2 x3 x4 hA w hS
  have D := is_all m t .rei rfl op l A L H hA hf K
  cases hok : okP .rei op A L H with
  | true =>
   rw [hok] at D
   exact ke_3_2 m t op A B L H lv ln lc _ _ x0 x1 x2 x3 x4 D w hS
  | false =>
   rw [hok] at D
   exact ke_bad_3 m t op A B L H lv ln lc x0 x1 x2 x3 x4 (bad_any D) w hS
 ·obtain ⟨⟨l, K⟩, hf⟩ := C
  intro A B L H lv ln lc x0 x1 x2 x3 x4 hA w hS
  have D := is_all m t .rel rfl op l A L H hA hf K
  cases hok : okP .rel op A L H with
  | true =>
   rw [hok] at D
   exact ke_3_2 m t op A B L H lv ln lc _ _ x0 x1 x2 x3 x4 D w hS
  | false =>
   rw [hok] at D
   exact ke_bad_3 m t op A B L H lv ln lc x0 x1 x2 x3 x4 (bad_any D) w hS
 ·obtain ⟨⟨l, K⟩, hf⟩ := C
  intro A B L H lv ln lc x0 x1 x2 x3 x4 hA w hS
  have D := is_all m t .shift rfl op l A L H hA hf K
  exact ke_3_2 m t op A B L H lv ln lc _ _ x0 x1 x2 x3 x4 D w hS
 ·obtain ⟨⟨l, K⟩, hf⟩ := C
  intro A B L H lv ln lc x0 x1 x2 x3 x4 hA w hS
  have D := is_all m t .abin rfl op l A L H hA hf K
  exact ke_4_2 m t op A B L H lv ln lc _ _ x0 x1 x2 x3 x4 D w hS
 ·obtain ⟨⟨l, K⟩, hf⟩ := C
  intro A B L H lv ln lc x0 x1 x2 x3 x4 hA w hS
  have D := is_all m t .cmp rfl op l A L H hA hf K
  exact ke_4_2 m t op A B L H lv ln lc _ _ x0 x1 x2 x3 x4 D w hS
 ·obtain ⟨⟨l, K⟩, hf⟩ := C
  intro A B L H lv ln lc x0 x1 x2 x3 x4 hA w hS
  have D := is_all m t .wbin rfl op l A L H hA hf K
  exact ke_4_2 m t op A B L H lv ln lc _ _ x0 x1 x2 x3 x4 D w hS
 ·obtain ⟨⟨l, K⟩, hf⟩ := C
  intro A B L H lv ln lc x0 x1 x2 x3 x4 hA w hS
  have D := is_all m t .swz rfl op l A L H hA hf K
  exact ke_4_2 m t op A B L H lv ln lc _ _ x0 x1 x2 x3 x4 D w hS
 ·obtain ⟨⟨l, K⟩, hf⟩ := C
  intro A B L H lv ln lc x0 x1 x2 x3 x4 hA w hS
  have D := is_all m t .shf rfl op l A L H hA hf K
  cases hok : okP .shf op A L H with
  | true =>
   rw [hok] at D
   exact ke_4_2 m t op A B L H lv ln lc _ _ x0 x1 x2 x3 x4 D w hS
  | false =>
   rw [hok] at D
   exact ke_bad_4 m t op A B L H lv ln lc x0 x1 x2 x3 x4 (bad_any D) w hS
 ·obtain ⟨⟨l, K⟩, hf⟩ := C
  intro A B L H lv ln lc x0 x1 x2 x3 x4 hA w hS
  have D := is_all m t .spi rfl op l A L H hA hf K
  exact ke_1_2 m t op A B L H lv ln lc _ _ x0 x1 x2 x3 x4 D w hS
 ·obtain ⟨⟨l, K⟩, hf⟩ := C
  intro A B L H lv ln lc x0 x1 x2 x3 x4 hA w hS
  have D := is_all m t .spl rfl op l A L H hA hf K
  exact ke_1_2 m t op A B L H lv ln lc _ _ x0 x1 x2 x3 x4 D w hS
theorem ke_walk (m : Int) (t : Gt) (op : Int) (hop : op ≤ 9223372036854775807) : KeOk m t op := by
 by_cases h : op < 64768
 ·exact ke_none (sca_any m t op h)
 ·by_cases h2 : op < 65024
  ·obtain ⟨k, rfl⟩ : ∃ k : Nat, op = 64768 + (k : Int) := ⟨(op - 64768).toNat, by omega⟩
   exact ke_vec m t _ _ (by omega) (cl_all k (by omega))
  ·exact ke_none (no_un (.inl ⟨by omega, by omega, 0, _, fun w => Ins.top_vw0 (op - 64768) 0 0 _ (by omega) (fun w => Ins.vw_24 (op - 64768) (by omega) w) w⟩))
theorem keeps_any (op A B L H : Int) (lv : Option Addr) (ln lc : Nat) (x0 x1 x2 x3 x4 : Int) (hop : -9223372036854775808 ≤ op ∧ op ≤ 9223372036854775807) (hA : -9223372036854775808 ≤ A ∧ A ≤ 9223372036854775807) (w : World) (hm : Ins.Mx w) :
  Calls Try.prog 6 #[ins op A B L H (.slice lv ln lc), .agg ⟨c5 x0 x1 x2 x3 x4⟩] w fun e w' => e = .returned (.bool true) ∧ Gr w w' := by
 obtain ⟨m, hm⟩ := hm
 obtain ⟨t, hS⟩ := g_start hm
 exact ke_walk m t op hop.2 A B L H lv ln lc x0 x1 x2 x3 x4 (by unfold inI; simp only [Bool.and_eq_true, decide_eq_true_eq]; exact hA) w hS
end Vc
end Go.Proofs.Ytjoalcaooccbiaa
