/-
  Both Arities of layer 3, for all numbers; the reference's Bin: the same as the program's. (For NumAll.)
-/
import Derived.Test.YthdklnkaeddogacDoorNumAr
import Derived.Test.YthdklnkaeddogacDoorNumUnR
namespace Go.Proofs.YthdklnkaeddogacDoor
open Go.RowKit NumRM NumRef NumM Un Un2
namespace NumBinR
def lst : List Int := [69, 80, 103, 104, 105, 121, 122, 123, 167, 172, 173, 192, 193, 194, 195, 196]
def Two (op : Int) : Prop := (70 ≤ op ∧ op < 80) ∨ (81 ≤ op ∧ op < 91) ∨ (106 ≤ op ∧ op < 121) ∨ (124 ≤ op ∧ op < 139)
theorem mem_lst (op : Int) : op ∈ lst ↔ isUn2 op := by
  unfold lst isUn2 isUn
  simp only [List.mem_cons, List.not_mem_nil, or_false]
  omega
theorem two_not (op : Int) (h : Two op) : ¬ isUn2 op := by unfold Two at h; unfold isUn2 isUn; omega
/-! ### the program's -/
theorem ar_one (op : Int) (h : isUn2 op) (w : World) : Calls Tryd.prog 11 #[.int .i64 op] w fun e w' => e = .returned (.int .i64 1) ∧ w = w' := by
  rcases h with h | h
  · exact arity_un op h w
  · exact arity_un2 op h w
set_option maxHeartbeats 1000000 in
theorem ar_two0 (op : Int) (h0 : 70 ≤ op) (h1 : op < 80) (w : World) : Calls Tryd.prog 11 #[.int .i64 op] w fun e w' => e = .returned (.int .i64 2) ∧ w = w' := by
  have b69 : (op == 69) = false := beq_eq_false_iff_ne.2 (by omega)
  have b80 : (op == 80) = false := beq_eq_false_iff_ne.2 (by omega)
  have b103 : (op == 103) = false := beq_eq_false_iff_ne.2 (by omega)
  have b104 : (op == 104) = false := beq_eq_false_iff_ne.2 (by omega)
  have b105 : (op == 105) = false := beq_eq_false_iff_ne.2 (by omega)
  have b121 : (op == 121) = false := beq_eq_false_iff_ne.2 (by omega)
  have b122 : (op == 122) = false := beq_eq_false_iff_ne.2 (by omega)
  have b123 : (op == 123) = false := beq_eq_false_iff_ne.2 (by omega)
  have b167 : (op == 167) = false := beq_eq_false_iff_ne.2 (by omega)
  have b172 : (op == 172) = false := beq_eq_false_iff_ne.2 (by omega)
  have b173 : (op == 173) = false := beq_eq_false_iff_ne.2 (by omega)
  have b192 : (op == 192) = false := beq_eq_false_iff_ne.2 (by omega)
  have b193 : (op == 193) = false := beq_eq_false_iff_ne.2 (by omega)
  have b194 : (op == 194) = false := beq_eq_false_iff_ne.2 (by omega)
  have b195 : (op == 195) = false := beq_eq_false_iff_ne.2 (by omega)
  have b196 : (op == 196) = false := beq_eq_false_iff_ne.2 (by omega)
  have H0 := Lib.hid h0
  have H1 := Lib.hid h1
  clear h0 h1
  go_enter Tryd.func11, Tryd.ntmps11
  go_wp2_with fail
  refine (in_yes op 70 10 (by decide) (by decide) (by decide) (by decide) H0.out (by have := H1.out; omega) _).mono ?_
  rintro e w1 ⟨rfl, rfl⟩
  go_wp2
  go_ret
  exact ⟨rfl, rfl⟩
set_option maxHeartbeats 1000000 in
theorem ar_two1 (op : Int) (h0 : 81 ≤ op) (h1 : op < 91) (w : World) : Calls Tryd.prog 11 #[.int .i64 op] w fun e w' => e = .returned (.int .i64 2) ∧ w = w' := by
  have b69 : (op == 69) = false := beq_eq_false_iff_ne.2 (by omega)
  have b80 : (op == 80) = false := beq_eq_false_iff_ne.2 (by omega)
  have b103 : (op == 103) = false := beq_eq_false_iff_ne.2 (by omega)
  have b104 : (op == 104) = false := beq_eq_false_iff_ne.2 (by omega)
  have b105 : (op == 105) = false := beq_eq_false_iff_ne.2 (by omega)
  have b121 : (op == 121) = false := beq_eq_false_iff_ne.2 (by omega)
  have b122 : (op == 122) = false := beq_eq_false_iff_ne.2 (by omega)
  have b123 : (op == 123) = false := beq_eq_false_iff_ne.2 (by omega)
  have b167 : (op == 167) = false := beq_eq_false_iff_ne.2 (by omega)
  have b172 : (op == 172) = false := beq_eq_false_iff_ne.2 (by omega)
  have b173 : (op == 173) = false := beq_eq_false_iff_ne.2 (by omega)
  have b192 : (op == 192) = false := beq_eq_false_iff_ne.2 (by omega)
  have b193 : (op == 193) = false := beq_eq_false_iff_ne.2 (by omega)
  have b194 : (op == 194) = false := beq_eq_false_iff_ne.2 (by omega)
  have b195 : (op == 195) = false := beq_eq_false_iff_ne.2 (by omega)
  have b196 : (op == 196) = false := beq_eq_false_iff_ne.2 (by omega)
  have H0 := Lib.hid h0
  have H1 := Lib.hid h1
  clear h0 h1
  go_enter Tryd.func11, Tryd.ntmps11
  go_wp2_with fail
  refine (in_no op 70 10 (by decide) (by decide) (by decide) (by decide) (by have := H0.out; have := H1.out; omega) _).mono ?_
  rintro e w1 ⟨rfl, rfl⟩
  go_wp2_with fail
  refine (in_yes op 81 10 (by decide) (by decide) (by decide) (by decide) H0.out (by have := H1.out; omega) _).mono ?_
  rintro e w1 ⟨rfl, rfl⟩
  go_wp2
  go_ret
  exact ⟨rfl, rfl⟩
set_option maxHeartbeats 1000000 in
theorem ar_two2 (op : Int) (h0 : 106 ≤ op) (h1 : op < 121) (w : World) : Calls Tryd.prog 11 #[.int .i64 op] w fun e w' => e = .returned (.int .i64 2) ∧ w = w' := by
  have b69 : (op == 69) = false := beq_eq_false_iff_ne.2 (by omega)
  have b80 : (op == 80) = false := beq_eq_false_iff_ne.2 (by omega)
  have b103 : (op == 103) = false := beq_eq_false_iff_ne.2 (by omega)
  have b104 : (op == 104) = false := beq_eq_false_iff_ne.2 (by omega)
  have b105 : (op == 105) = false := beq_eq_false_iff_ne.2 (by omega)
  have b121 : (op == 121) = false := beq_eq_false_iff_ne.2 (by omega)
  have b122 : (op == 122) = false := beq_eq_false_iff_ne.2 (by omega)
  have b123 : (op == 123) = false := beq_eq_false_iff_ne.2 (by omega)
  have b167 : (op == 167) = false := beq_eq_false_iff_ne.2 (by omega)
  have b172 : (op == 172) = false := beq_eq_false_iff_ne.2 (by omega)
  have b173 : (op == 173) = false := beq_eq_false_iff_ne.2 (by omega)
  have b192 : (op == 192) = false := beq_eq_false_iff_ne.2 (by omega)
  have b193 : (op == 193) = false := beq_eq_false_iff_ne.2 (by omega)
  have b194 : (op == 194) = false := beq_eq_false_iff_ne.2 (by omega)
  have b195 : (op == 195) = false := beq_eq_false_iff_ne.2 (by omega)
  have b196 : (op == 196) = false := beq_eq_false_iff_ne.2 (by omega)
  have H0 := Lib.hid h0
  have H1 := Lib.hid h1
  clear h0 h1
  go_enter Tryd.func11, Tryd.ntmps11
  go_wp2_with fail
  refine (in_no op 70 10 (by decide) (by decide) (by decide) (by decide) (by have := H0.out; have := H1.out; omega) _).mono ?_
  rintro e w1 ⟨rfl, rfl⟩
  go_wp2_with fail
  refine (in_no op 81 10 (by decide) (by decide) (by decide) (by decide) (by have := H0.out; have := H1.out; omega) _).mono ?_
  rintro e w1 ⟨rfl, rfl⟩
  go_wp2_with fail
  refine (in_yes op 106 15 (by decide) (by decide) (by decide) (by decide) H0.out (by have := H1.out; omega) _).mono ?_
  rintro e w1 ⟨rfl, rfl⟩
  go_wp2
  go_ret
  exact ⟨rfl, rfl⟩
set_option maxHeartbeats 1000000 in
theorem ar_two3 (op : Int) (h0 : 124 ≤ op) (h1 : op < 139) (w : World) : Calls Tryd.prog 11 #[.int .i64 op] w fun e w' => e = .returned (.int .i64 2) ∧ w = w' := by
  have b69 : (op == 69) = false := beq_eq_false_iff_ne.2 (by omega)
  have b80 : (op == 80) = false := beq_eq_false_iff_ne.2 (by omega)
  have b103 : (op == 103) = false := beq_eq_false_iff_ne.2 (by omega)
  have b104 : (op == 104) = false := beq_eq_false_iff_ne.2 (by omega)
  have b105 : (op == 105) = false := beq_eq_false_iff_ne.2 (by omega)
  have b121 : (op == 121) = false := beq_eq_false_iff_ne.2 (by omega)
  have b122 : (op == 122) = false := beq_eq_false_iff_ne.2 (by omega)
  have b123 : (op == 123) = false := beq_eq_false_iff_ne.2 (by omega)
  have b167 : (op == 167) = false := beq_eq_false_iff_ne.2 (by omega)
  have b172 : (op == 172) = false := beq_eq_false_iff_ne.2 (by omega)
  have b173 : (op == 173) = false := beq_eq_false_iff_ne.2 (by omega)
  have b192 : (op == 192) = false := beq_eq_false_iff_ne.2 (by omega)
  have b193 : (op == 193) = false := beq_eq_false_iff_ne.2 (by omega)
  have b194 : (op == 194) = false := beq_eq_false_iff_ne.2 (by omega)
  have b195 : (op == 195) = false := beq_eq_false_iff_ne.2 (by omega)
  have b196 : (op == 196) = false := beq_eq_false_iff_ne.2 (by omega)
  have H0 := Lib.hid h0
  have H1 := Lib.hid h1
  clear h0 h1
  go_enter Tryd.func11, Tryd.ntmps11
  go_wp2_with fail
  refine (in_no op 70 10 (by decide) (by decide) (by decide) (by decide) (by have := H0.out; have := H1.out; omega) _).mono ?_
  rintro e w1 ⟨rfl, rfl⟩
  go_wp2_with fail
  refine (in_no op 81 10 (by decide) (by decide) (by decide) (by decide) (by have := H0.out; have := H1.out; omega) _).mono ?_
  rintro e w1 ⟨rfl, rfl⟩
  go_wp2_with fail
  refine (in_no op 106 15 (by decide) (by decide) (by decide) (by decide) (by have := H0.out; have := H1.out; omega) _).mono ?_
  rintro e w1 ⟨rfl, rfl⟩
  go_wp2_with fail
  refine (in_yes op 124 15 (by decide) (by decide) (by decide) (by decide) H0.out (by have := H1.out; omega) _).mono ?_
  rintro e w1 ⟨rfl, rfl⟩
  go_wp2
  go_ret
  exact ⟨rfl, rfl⟩
set_option maxHeartbeats 1000000 in
theorem ar_none (op : Int) (h : ¬ isUn2 op) (h2 : ¬ Two op) (w : World) : Calls Tryd.prog 11 #[.int .i64 op] w fun e w' => e = .returned (.int .i64 0) ∧ w = w' := by
  unfold isUn2 isUn at h
  unfold Two at h2
  have b69 : (op == 69) = false := beq_eq_false_iff_ne.2 (by omega)
  have b80 : (op == 80) = false := beq_eq_false_iff_ne.2 (by omega)
  have b103 : (op == 103) = false := beq_eq_false_iff_ne.2 (by omega)
  have b104 : (op == 104) = false := beq_eq_false_iff_ne.2 (by omega)
  have b105 : (op == 105) = false := beq_eq_false_iff_ne.2 (by omega)
  have b121 : (op == 121) = false := beq_eq_false_iff_ne.2 (by omega)
  have b122 : (op == 122) = false := beq_eq_false_iff_ne.2 (by omega)
  have b123 : (op == 123) = false := beq_eq_false_iff_ne.2 (by omega)
  have b167 : (op == 167) = false := beq_eq_false_iff_ne.2 (by omega)
  have b172 : (op == 172) = false := beq_eq_false_iff_ne.2 (by omega)
  have b173 : (op == 173) = false := beq_eq_false_iff_ne.2 (by omega)
  have b192 : (op == 192) = false := beq_eq_false_iff_ne.2 (by omega)
  have b193 : (op == 193) = false := beq_eq_false_iff_ne.2 (by omega)
  have b194 : (op == 194) = false := beq_eq_false_iff_ne.2 (by omega)
  have b195 : (op == 195) = false := beq_eq_false_iff_ne.2 (by omega)
  have b196 : (op == 196) = false := beq_eq_false_iff_ne.2 (by omega)
  have H2 := Lib.hid h2
  clear h h2
  go_enter Tryd.func11, Tryd.ntmps11
  go_wp2_with fail
  refine (in_no op 70 10 (by decide) (by decide) (by decide) (by decide) (by have := H2.out; omega) _).mono ?_
  rintro e w1 ⟨rfl, rfl⟩
  go_wp2_with fail
  refine (in_no op 81 10 (by decide) (by decide) (by decide) (by decide) (by have := H2.out; omega) _).mono ?_
  rintro e w1 ⟨rfl, rfl⟩
  go_wp2_with fail
  refine (in_no op 106 15 (by decide) (by decide) (by decide) (by decide) (by have := H2.out; omega) _).mono ?_
  rintro e w1 ⟨rfl, rfl⟩
  go_wp2_with fail
  refine (in_no op 124 15 (by decide) (by decide) (by decide) (by decide) (by have := H2.out; omega) _).mono ?_
  rintro e w1 ⟨rfl, rfl⟩
  go_wp2
  go_ret
  exact ⟨rfl, rfl⟩
theorem ar_two (op : Int) (h : Two op) (w : World) : Calls Tryd.prog 11 #[.int .i64 op] w fun e w' => e = .returned (.int .i64 2) ∧ w = w' := by
  rcases h with ⟨h0, h1⟩ | ⟨h0, h1⟩ | ⟨h0, h1⟩ | ⟨h0, h1⟩
  · exact ar_two0 op h0 h1 w
  · exact ar_two1 op h0 h1 w
  · exact ar_two2 op h0 h1 w
  · exact ar_two3 op h0 h1 w
/-! ### the reference's -/
def Passed (k : Nat) (op : Int) : Prop := ∀ c ∈ lst.take k, op ≠ c
theorem ret_i {a b : Int} (h : a = b) : Ending.returned (.int .i64 a) = .returned (.int .i64 b) := by rw [h]
theorem passed_all (op : Int) (h : Passed 16 op) : ¬ isUn2 op := fun h' => h op (by rw [show lst.take 16 = lst from rfl]; exact (mem_lst op).2 h') rfl
set_option maxHeartbeats 4000000 in
theorem rar_any (op r : Int) (h1 : isUn2 op → r = 1) (h2 : Two op → r = 2) (h0 : ¬ isUn2 op → ¬ Two op → r = 0) (w : World) :
    Calls Tryd.prog 12 #[.int .i64 op] w fun e w' => e = .returned (.int .i64 r) ∧ Grown w w' := by
  have H0 := Lib.hid h0
  have H1 := Lib.hid h1
  have H2 := Lib.hid h2
  clear h0 h1 h2
  go_enter Tryd.func12, Tryd.ntmps12
  go_wp2_with fail
  go_loop [4] (fun iv => ∃ k : Int, 0 ≤ k ∧ k ≤ 16 ∧ iv = .int .i64 k ∧ Passed k.toNat op) (fun iv => (16 - intOf iv).toNat)
  case atStart => exact ⟨0, by decide, by decide, rfl, fun c hc => by cases hc⟩
  case round =>
    obtain ⟨k, hk0, hk1, rfl, hp⟩ := hrel
    have HP := Lib.hid hp
    clear hp
    obtain rfl | rfl | rfl | rfl | rfl | rfl | rfl | rfl | rfl | rfl | rfl | rfl | rfl | rfl | rfl | rfl | rfl : k = 0 ∨ k = 1 ∨ k = 2 ∨ k = 3 ∨ k = 4 ∨ k = 5 ∨ k = 6 ∨ k = 7 ∨ k = 8 ∨ k = 9 ∨ k = 10 ∨ k = 11 ∨ k = 12 ∨ k = 13 ∨ k = 14 ∨ k = 15 ∨ k = 16 := by omega
    · clear hk0 hk1
      by_cases h : op = 69
      · subst h
        go_wp2
        go_ret
        exact ⟨ret_i (H1.out ((mem_lst _).1 (by decide))).symm, by repeat (first | exact Grown.refl _ | apply Grown.drew | apply Grown.alloc)⟩
      · have hb : ((69 : Int) == op) = false := beq_eq_false_iff_ne.2 (fun h' => h h'.symm)
        have HN := Lib.hid h
        clear h
        go_wp2
        exact ⟨⟨1, by decide, by decide, rfl, fun c hc => by
          have hc' : c ∈ lst.take 0 ∨ c = 69 := by
            have e : lst.take 1 = lst.take 0 ++ [69] := rfl
            rw [show ((1 : Int).toNat) = 1 from rfl, e] at hc
            rcases List.mem_append.1 hc with h | h
            · exact Or.inl h
            · exact Or.inr (List.mem_singleton.1 h)
          rcases hc' with h | h
          · exact HP.out c h
          · rw [h]; exact HN.out⟩, by simp [intOf]⟩
    · clear hk0 hk1
      by_cases h : op = 80
      · subst h
        go_wp2
        go_ret
        exact ⟨ret_i (H1.out ((mem_lst _).1 (by decide))).symm, by repeat (first | exact Grown.refl _ | apply Grown.drew | apply Grown.alloc)⟩
      · have hb : ((80 : Int) == op) = false := beq_eq_false_iff_ne.2 (fun h' => h h'.symm)
        have HN := Lib.hid h
        clear h
        go_wp2
        exact ⟨⟨2, by decide, by decide, rfl, fun c hc => by
          have hc' : c ∈ lst.take 1 ∨ c = 80 := by
            have e : lst.take 2 = lst.take 1 ++ [80] := rfl
            rw [show ((2 : Int).toNat) = 2 from rfl, e] at hc
            rcases List.mem_append.1 hc with h | h
            · exact Or.inl h
            · exact Or.inr (List.mem_singleton.1 h)
          rcases hc' with h | h
          · exact HP.out c h
          · rw [h]; exact HN.out⟩, by simp [intOf]⟩
    · clear hk0 hk1
      by_cases h : op = 103
      · subst h
        go_wp2
        go_ret
        exact ⟨ret_i (H1.out ((mem_lst _).1 (by decide))).symm, by repeat (first | exact Grown.refl _ | apply Grown.drew | apply Grown.alloc)⟩
      · have hb : ((103 : Int) == op) = false := beq_eq_false_iff_ne.2 (fun h' => h h'.symm)
        have HN := Lib.hid h
        clear h
        go_wp2
        exact ⟨⟨3, by decide, by decide, rfl, fun c hc => by
          have hc' : c ∈ lst.take 2 ∨ c = 103 := by
            have e : lst.take 3 = lst.take 2 ++ [103] := rfl
            rw [show ((3 : Int).toNat) = 3 from rfl, e] at hc
            rcases List.mem_append.1 hc with h | h
            · exact Or.inl h
            · exact Or.inr (List.mem_singleton.1 h)
          rcases hc' with h | h
          · exact HP.out c h
          · rw [h]; exact HN.out⟩, by simp [intOf]⟩
    · clear hk0 hk1
      by_cases h : op = 104
      · subst h
        go_wp2
        go_ret
        exact ⟨ret_i (H1.out ((mem_lst _).1 (by decide))).symm, by repeat (first | exact Grown.refl _ | apply Grown.drew | apply Grown.alloc)⟩
      · have hb : ((104 : Int) == op) = false := beq_eq_false_iff_ne.2 (fun h' => h h'.symm)
        have HN := Lib.hid h
        clear h
        go_wp2
        exact ⟨⟨4, by decide, by decide, rfl, fun c hc => by
          have hc' : c ∈ lst.take 3 ∨ c = 104 := by
            have e : lst.take 4 = lst.take 3 ++ [104] := rfl
            rw [show ((4 : Int).toNat) = 4 from rfl, e] at hc
            rcases List.mem_append.1 hc with h | h
            · exact Or.inl h
            · exact Or.inr (List.mem_singleton.1 h)
          rcases hc' with h | h
          · exact HP.out c h
          · rw [h]; exact HN.out⟩, by simp [intOf]⟩
    · clear hk0 hk1
      by_cases h : op = 105
      · subst h
        go_wp2
        go_ret
        exact ⟨ret_i (H1.out ((mem_lst _).1 (by decide))).symm, by repeat (first | exact Grown.refl _ | apply Grown.drew | apply Grown.alloc)⟩
      · have hb : ((105 : Int) == op) = false := beq_eq_false_iff_ne.2 (fun h' => h h'.symm)
        have HN := Lib.hid h
        clear h
        go_wp2
        exact ⟨⟨5, by decide, by decide, rfl, fun c hc => by
          have hc' : c ∈ lst.take 4 ∨ c = 105 := by
            have e : lst.take 5 = lst.take 4 ++ [105] := rfl
            rw [show ((5 : Int).toNat) = 5 from rfl, e] at hc
            rcases List.mem_append.1 hc with h | h
            · exact Or.inl h
            · exact Or.inr (List.mem_singleton.1 h)
          rcases hc' with h | h
          · exact HP.out c h
          · rw [h]; exact HN.out⟩, by simp [intOf]⟩
    · clear hk0 hk1
      by_cases h : op = 121
      · subst h
        go_wp2
        go_ret
        exact ⟨ret_i (H1.out ((mem_lst _).1 (by decide))).symm, by repeat (first | exact Grown.refl _ | apply Grown.drew | apply Grown.alloc)⟩
      · have hb : ((121 : Int) == op) = false := beq_eq_false_iff_ne.2 (fun h' => h h'.symm)
        have HN := Lib.hid h
        clear h
        go_wp2
        exact ⟨⟨6, by decide, by decide, rfl, fun c hc => by
          have hc' : c ∈ lst.take 5 ∨ c = 121 := by
            have e : lst.take 6 = lst.take 5 ++ [121] := rfl
            rw [show ((6 : Int).toNat) = 6 from rfl, e] at hc
            rcases List.mem_append.1 hc with h | h
            · exact Or.inl h
            · exact Or.inr (List.mem_singleton.1 h)
          rcases hc' with h | h
          · exact HP.out c h
          · rw [h]; exact HN.out⟩, by simp [intOf]⟩
    · clear hk0 hk1
      by_cases h : op = 122
      · subst h
        go_wp2
        go_ret
        exact ⟨ret_i (H1.out ((mem_lst _).1 (by decide))).symm, by repeat (first | exact Grown.refl _ | apply Grown.drew | apply Grown.alloc)⟩
      · have hb : ((122 : Int) == op) = false := beq_eq_false_iff_ne.2 (fun h' => h h'.symm)
        have HN := Lib.hid h
        clear h
        go_wp2
        exact ⟨⟨7, by decide, by decide, rfl, fun c hc => by
          have hc' : c ∈ lst.take 6 ∨ c = 122 := by
            have e : lst.take 7 = lst.take 6 ++ [122] := rfl
            rw [show ((7 : Int).toNat) = 7 from rfl, e] at hc
            rcases List.mem_append.1 hc with h | h
            · exact Or.inl h
            · exact Or.inr (List.mem_singleton.1 h)
          rcases hc' with h | h
          · exact HP.out c h
          · rw [h]; exact HN.out⟩, by simp [intOf]⟩
    · clear hk0 hk1
      by_cases h : op = 123
      · subst h
        go_wp2
        go_ret
        exact ⟨ret_i (H1.out ((mem_lst _).1 (by decide))).symm, by repeat (first | exact Grown.refl _ | apply Grown.drew | apply Grown.alloc)⟩
      · have hb : ((123 : Int) == op) = false := beq_eq_false_iff_ne.2 (fun h' => h h'.symm)
        have HN := Lib.hid h
        clear h
        go_wp2
        exact ⟨⟨8, by decide, by decide, rfl, fun c hc => by
          have hc' : c ∈ lst.take 7 ∨ c = 123 := by
            have e : lst.take 8 = lst.take 7 ++ [123] := rfl
            rw [show ((8 : Int).toNat) = 8 from rfl, e] at hc
            rcases List.mem_append.1 hc with h | h
            · exact Or.inl h
            · exact Or.inr (List.mem_singleton.1 h)
          rcases hc' with h | h
          · exact HP.out c h
          · rw [h]; exact HN.out⟩, by simp [intOf]⟩
    · clear hk0 hk1
      by_cases h : op = 167
      · subst h
        go_wp2
        go_ret
        exact ⟨ret_i (H1.out ((mem_lst _).1 (by decide))).symm, by repeat (first | exact Grown.refl _ | apply Grown.drew | apply Grown.alloc)⟩
      · have hb : ((167 : Int) == op) = false := beq_eq_false_iff_ne.2 (fun h' => h h'.symm)
        have HN := Lib.hid h
        clear h
        go_wp2
        exact ⟨⟨9, by decide, by decide, rfl, fun c hc => by
          have hc' : c ∈ lst.take 8 ∨ c = 167 := by
            have e : lst.take 9 = lst.take 8 ++ [167] := rfl
            rw [show ((9 : Int).toNat) = 9 from rfl, e] at hc
            rcases List.mem_append.1 hc with h | h
            · exact Or.inl h
            · exact Or.inr (List.mem_singleton.1 h)
          rcases hc' with h | h
          · exact HP.out c h
          · rw [h]; exact HN.out⟩, by simp [intOf]⟩
    · clear hk0 hk1
      by_cases h : op = 172
      · subst h
        go_wp2
        go_ret
        exact ⟨ret_i (H1.out ((mem_lst _).1 (by decide))).symm, by repeat (first | exact Grown.refl _ | apply Grown.drew | apply Grown.alloc)⟩
      · have hb : ((172 : Int) == op) = false := beq_eq_false_iff_ne.2 (fun h' => h h'.symm)
        have HN := Lib.hid h
        clear h
        go_wp2
        exact ⟨⟨10, by decide, by decide, rfl, fun c hc => by
          have hc' : c ∈ lst.take 9 ∨ c = 172 := by
            have e : lst.take 10 = lst.take 9 ++ [172] := rfl
            rw [show ((10 : Int).toNat) = 10 from rfl, e] at hc
            rcases List.mem_append.1 hc with h | h
            · exact Or.inl h
            · exact Or.inr (List.mem_singleton.1 h)
          rcases hc' with h | h
          · exact HP.out c h
          · rw [h]; exact HN.out⟩, by simp [intOf]⟩
    · clear hk0 hk1
      by_cases h : op = 173
      · subst h
        go_wp2
        go_ret
        exact ⟨ret_i (H1.out ((mem_lst _).1 (by decide))).symm, by repeat (first | exact Grown.refl _ | apply Grown.drew | apply Grown.alloc)⟩
      · have hb : ((173 : Int) == op) = false := beq_eq_false_iff_ne.2 (fun h' => h h'.symm)
        have HN := Lib.hid h
        clear h
        go_wp2
        exact ⟨⟨11, by decide, by decide, rfl, fun c hc => by
          have hc' : c ∈ lst.take 10 ∨ c = 173 := by
            have e : lst.take 11 = lst.take 10 ++ [173] := rfl
            rw [show ((11 : Int).toNat) = 11 from rfl, e] at hc
            rcases List.mem_append.1 hc with h | h
            · exact Or.inl h
            · exact Or.inr (List.mem_singleton.1 h)
          rcases hc' with h | h
          · exact HP.out c h
          · rw [h]; exact HN.out⟩, by simp [intOf]⟩
    · clear hk0 hk1
      by_cases h : op = 192
      · subst h
        go_wp2
        go_ret
        exact ⟨ret_i (H1.out ((mem_lst _).1 (by decide))).symm, by repeat (first | exact Grown.refl _ | apply Grown.drew | apply Grown.alloc)⟩
      · have hb : ((192 : Int) == op) = false := beq_eq_false_iff_ne.2 (fun h' => h h'.symm)
        have HN := Lib.hid h
        clear h
        go_wp2
        exact ⟨⟨12, by decide, by decide, rfl, fun c hc => by
          have hc' : c ∈ lst.take 11 ∨ c = 192 := by
            have e : lst.take 12 = lst.take 11 ++ [192] := rfl
            rw [show ((12 : Int).toNat) = 12 from rfl, e] at hc
            rcases List.mem_append.1 hc with h | h
            · exact Or.inl h
            · exact Or.inr (List.mem_singleton.1 h)
          rcases hc' with h | h
          · exact HP.out c h
          · rw [h]; exact HN.out⟩, by simp [intOf]⟩
    · clear hk0 hk1
      by_cases h : op = 193
      · subst h
        go_wp2
        go_ret
        exact ⟨ret_i (H1.out ((mem_lst _).1 (by decide))).symm, by repeat (first | exact Grown.refl _ | apply Grown.drew | apply Grown.alloc)⟩
      · have hb : ((193 : Int) == op) = false := beq_eq_false_iff_ne.2 (fun h' => h h'.symm)
        have HN := Lib.hid h
        clear h
        go_wp2
        exact ⟨⟨13, by decide, by decide, rfl, fun c hc => by
          have hc' : c ∈ lst.take 12 ∨ c = 193 := by
            have e : lst.take 13 = lst.take 12 ++ [193] := rfl
            rw [show ((13 : Int).toNat) = 13 from rfl, e] at hc
            rcases List.mem_append.1 hc with h | h
            · exact Or.inl h
            · exact Or.inr (List.mem_singleton.1 h)
          rcases hc' with h | h
          · exact HP.out c h
          · rw [h]; exact HN.out⟩, by simp [intOf]⟩
    · clear hk0 hk1
      by_cases h : op = 194
      · subst h
        go_wp2
        go_ret
        exact ⟨ret_i (H1.out ((mem_lst _).1 (by decide))).symm, by repeat (first | exact Grown.refl _ | apply Grown.drew | apply Grown.alloc)⟩
      · have hb : ((194 : Int) == op) = false := beq_eq_false_iff_ne.2 (fun h' => h h'.symm)
        have HN := Lib.hid h
        clear h
        go_wp2
        exact ⟨⟨14, by decide, by decide, rfl, fun c hc => by
          have hc' : c ∈ lst.take 13 ∨ c = 194 := by
            have e : lst.take 14 = lst.take 13 ++ [194] := rfl
            rw [show ((14 : Int).toNat) = 14 from rfl, e] at hc
            rcases List.mem_append.1 hc with h | h
            · exact Or.inl h
            · exact Or.inr (List.mem_singleton.1 h)
          rcases hc' with h | h
          · exact HP.out c h
          · rw [h]; exact HN.out⟩, by simp [intOf]⟩
    · clear hk0 hk1
      by_cases h : op = 195
      · subst h
        go_wp2
        go_ret
        exact ⟨ret_i (H1.out ((mem_lst _).1 (by decide))).symm, by repeat (first | exact Grown.refl _ | apply Grown.drew | apply Grown.alloc)⟩
      · have hb : ((195 : Int) == op) = false := beq_eq_false_iff_ne.2 (fun h' => h h'.symm)
        have HN := Lib.hid h
        clear h
        go_wp2
        exact ⟨⟨15, by decide, by decide, rfl, fun c hc => by
          have hc' : c ∈ lst.take 14 ∨ c = 195 := by
            have e : lst.take 15 = lst.take 14 ++ [195] := rfl
            rw [show ((15 : Int).toNat) = 15 from rfl, e] at hc
            rcases List.mem_append.1 hc with h | h
            · exact Or.inl h
            · exact Or.inr (List.mem_singleton.1 h)
          rcases hc' with h | h
          · exact HP.out c h
          · rw [h]; exact HN.out⟩, by simp [intOf]⟩
    · clear hk0 hk1
      by_cases h : op = 196
      · subst h
        go_wp2
        go_ret
        exact ⟨ret_i (H1.out ((mem_lst _).1 (by decide))).symm, by repeat (first | exact Grown.refl _ | apply Grown.drew | apply Grown.alloc)⟩
      · have hb : ((196 : Int) == op) = false := beq_eq_false_iff_ne.2 (fun h' => h h'.symm)
        have HN := Lib.hid h
        clear h
        go_wp2
        exact ⟨⟨16, by decide, by decide, rfl, fun c hc => by
          have hc' : c ∈ lst.take 15 ∨ c = 196 := by
            have e : lst.take 16 = lst.take 15 ++ [196] := rfl
            rw [show ((16 : Int).toNat) = 16 from rfl, e] at hc
            rcases List.mem_append.1 hc with h | h
            · exact Or.inl h
            · exact Or.inr (List.mem_singleton.1 h)
          rcases hc' with h | h
          · exact HP.out c h
          · rw [h]; exact HN.out⟩, by simp [intOf]⟩
    · clear hk0 hk1
      have hno := passed_all op HP.out
      have HO := Lib.hid hno
      clear hno
      by_cases t : Two op
      · obtain rfl : r = 2 := H2.out t
        unfold Two at t
        rcases t with ⟨t0, t1⟩ | ⟨t0, t1⟩ | ⟨t0, t1⟩ | ⟨t0, t1⟩
        all_goals
          go_wp2
          go_ret
          exact ⟨rfl, by repeat (first | exact Grown.refl _ | apply Grown.drew | apply Grown.alloc)⟩
      · obtain rfl : r = 0 := H0.out HO.out t
        have HT := Lib.hid t
        unfold Two at t
        clear t
        have c0 : op < 70 ∨ (80 ≤ op ∧ op < 81) ∨ (91 ≤ op ∧ op < 106) ∨ (121 ≤ op ∧ op < 124) ∨ 139 ≤ op := by have := HT.out; unfold Two at this; omega
        rcases c0 with t0 | ⟨t0, t1⟩ | ⟨t0, t1⟩ | ⟨t0, t1⟩ | t0
        all_goals
          go_wp2
          go_ret
          exact ⟨rfl, by repeat (first | exact Grown.refl _ | apply Grown.drew | apply Grown.alloc)⟩
end NumBinR
end Go.Proofs.YthdklnkaeddogacDoor
