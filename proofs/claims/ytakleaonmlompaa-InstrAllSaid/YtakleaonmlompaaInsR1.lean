/-
  Of layer 4: the reference's types, number and Float. Conditions: those of each theorem (short strings).
-/
import Derived.Test.YtakleaonmlompaaInsAp
namespace Go.Proofs.Ytakleaonmlompaa
open Go.RowKit
namespace Ins
/-- the codes of the letters i, l, v among the first k bytes -/
def rcode (c : UInt8) : List Value := if c.toNat = 105 then [.int .i64 127] else if c.toNat = 108 then [.int .i64 126] else if c.toNat = 118 then [.int .i64 123] else []
def rcodes (s : ByteArray) (k : Nat) : List Value := (s.data.toList.take k).flatMap rcode
theorem rcodes_snoc (s : ByteArray) (k : Nat) (h : k < s.size) : rcodes s (k + 1) = rcodes s k ++ rcode s[k] := by
  unfold rcodes
  rw [List.take_succ_eq_append_getElem (by simpa using h), List.flatMap_append]; simp; rfl
theorem rcodes_len (s : ByteArray) : ∀ k, k ≤ s.size → (rcodes s k).length ≤ k
  | 0, _ => by simp [rcodes]
  | k + 1, h => by
    rw [rcodes_snoc s k (by omega), List.length_append]
    have := rcodes_len s k (by omega)
    have h1 : (rcode s[k]).length ≤ 1 := by unfold rcode; (repeat' split) <;> simp
    omega
set_option maxHeartbeats 2000000 in
theorem rtypes_any (s : ByteArray) (w : World) (hs : s.size ≤ 1000) :
    Calls Try.prog 25 #[.string s] w fun e w' => ∃ sv, e = .returned sv ∧ Gr w w' ∧ w'.ownsRow w.heap.size 3 1 sv (rcodes s s.size).length (rcodes s s.size) := by
  obtain ⟨i0, hi, hz0, hz1, hz2⟩ := info_parts infoI
  have HI := Lib.hid hi
  have HZ0 := Lib.hid hz0
  have HZ1 := Lib.hid hz1
  have HZ2 := Lib.hid hz2
  clear hi hz0 hz1 hz2
  go_enter Try.func25, Try.ntmps25
  go_wp2_with fail
  go_loopw [4, 3] (fun i sv wr => ∃ k m : Nat, k ≤ s.size ∧ i = .int .i64 k ∧ Gr w wr ∧ m ≤ k ∧ m = (rcodes s k).length ∧ wr.ownsRow w.heap.size 3 1 sv m (rcodes s k)) (fun i _ _ => s.size - (intOf i).toNat)
  case atStart => exact ⟨0, 0, by omega, rfl, Gr.refl _, by omega, rfl, World.ownsRow_nil _ _ _ _⟩
  case round =>
    obtain ⟨k, m, hk, rfl, hg, hmk, hm, hown⟩ := hrel
    have HG := Lib.hid hg
    have HO := Lib.hid hown
    have HMl := Lib.hid hm
    clear hg hown hm
    by_cases hlt : k < s.size
    · have hsn := rcodes_snoc s k hlt
      have hc : (s[k].toNat : Int) = 105 ∧ rcode s[k] = [.int .i64 127] ∨ ((s[k].toNat : Int) == 105) = false ∧ (s[k].toNat : Int) = 108 ∧ rcode s[k] = [.int .i64 126] ∨ ((s[k].toNat : Int) == 105) = false ∧ ((s[k].toNat : Int) == 108) = false ∧ (s[k].toNat : Int) = 118 ∧ rcode s[k] = [.int .i64 123] ∨ ((s[k].toNat : Int) == 105) = false ∧ ((s[k].toNat : Int) == 108) = false ∧ ((s[k].toNat : Int) == 118) = false ∧ rcode s[k] = [] := by
        unfold rcode
        by_cases h1 : s[k].toNat = 105
        · left; rw [if_pos h1]; exact ⟨by omega, rfl⟩
        · right
          have b1 : ((s[k].toNat : Int) == 105) = false := beq_eq_false_iff_ne.2 (by omega)
          rw [if_neg h1]
          by_cases h2 : s[k].toNat = 108
          · left; rw [if_pos h2]; exact ⟨b1, by omega, rfl⟩
          · right
            have b2 : ((s[k].toNat : Int) == 108) = false := beq_eq_false_iff_ne.2 (by omega)
            rw [if_neg h2]
            by_cases h3 : s[k].toNat = 118
            · left; rw [if_pos h3]; exact ⟨b1, b2, by omega, rfl⟩
            · right; rw [if_neg h3]; exact ⟨b1, b2, beq_eq_false_iff_ne.2 (by omega), rfl⟩
      rcases hc with ⟨h1, hr⟩ | ⟨h1, h2, hr⟩ | ⟨h1, h2, h3, hr⟩ | ⟨h1, h2, h3, hr⟩
      · rw [hr] at hsn
        have HS := Lib.hid hsn
        clear hr hsn
        go_wp2_with (at_builtin; refine wpList_append_own _ rfl _ _ 25 rfl w.heap.size 3 i0 (.int .i64 0) 1 8 Try.underlying25 HI.out HZ0.out HZ1.out HZ2.out rfl (by decide) u3 m _ rfl (HO.out.alloc _) ⟨wr.heap.size, 0, none⟩ 1 1 [.int .i64 127] rfl rfl ?c1 ?c2 ?c3 ?c4 ?c5 ?_)
        case c1 =>
          intro j u hju
          match j, hju with
          | 0, hju => simp at hju; subst hju; exact (cell_of_row _ _ 0 _ _ _ (heap_alloc_new wr _)).trans rfl
        case c2 => intro u hu; simp at hu; subst hu; rfl
        case c3 => unfold maxLen; omega
        case c4 => omega
        case c5 => have := HG.out.size; simp; omega
        intro v' w2 hown2 hgb _
        have hrow : ∀ q, u3.ownBlock = some q → w.heap.size ≤ q := fun q hq => (HO.out.lt q hq).1
        have hgr : Gr w w2 := (HG.out.allocO _).grown hgb (fun q hq => by have := hrow q hq; omega)
        have hown3 : w2.ownsRow w.heap.size 3 1 v' (m + 1) (rcodes s (k + 1)) := by rw [HS.out]; exact hown2
        have hl3 : m + 1 = (rcodes s (k + 1)).length := by rw [HS.out, List.length_append, ← HMl.out]; rfl
        have H1 := Lib.hid hgr
        have H3 := Lib.hid hown3
        have H4 := Lib.hid hl3
        clear hown2 hgb hrow hgr hown3 hl3
        go_wp2
        exact ⟨⟨k + 1, m + 1, by omega, by go_num, H1.out, by omega, H4.out, H3.out⟩, by simp [intOf]; omega⟩
      · rw [hr] at hsn
        have HS := Lib.hid hsn
        clear hr hsn
        go_wp2_with (at_builtin; refine wpList_append_own _ rfl _ _ 25 rfl w.heap.size 3 i0 (.int .i64 0) 1 8 Try.underlying25 HI.out HZ0.out HZ1.out HZ2.out rfl (by decide) u3 m _ rfl (HO.out.alloc _) ⟨wr.heap.size, 0, none⟩ 1 1 [.int .i64 126] rfl rfl ?c1 ?c2 ?c3 ?c4 ?c5 ?_)
        case c1 =>
          intro j u hju
          match j, hju with
          | 0, hju => simp at hju; subst hju; exact (cell_of_row _ _ 0 _ _ _ (heap_alloc_new wr _)).trans rfl
        case c2 => intro u hu; simp at hu; subst hu; rfl
        case c3 => unfold maxLen; omega
        case c4 => omega
        case c5 => have := HG.out.size; simp; omega
        intro v' w2 hown2 hgb _
        have hrow : ∀ q, u3.ownBlock = some q → w.heap.size ≤ q := fun q hq => (HO.out.lt q hq).1
        have hgr : Gr w w2 := (HG.out.allocO _).grown hgb (fun q hq => by have := hrow q hq; omega)
        have hown3 : w2.ownsRow w.heap.size 3 1 v' (m + 1) (rcodes s (k + 1)) := by rw [HS.out]; exact hown2
        have hl3 : m + 1 = (rcodes s (k + 1)).length := by rw [HS.out, List.length_append, ← HMl.out]; rfl
        have H1 := Lib.hid hgr
        have H3 := Lib.hid hown3
        have H4 := Lib.hid hl3
        clear hown2 hgb hrow hgr hown3 hl3
        go_wp2
        exact ⟨⟨k + 1, m + 1, by omega, by go_num, H1.out, by omega, H4.out, H3.out⟩, by simp [intOf]; omega⟩
      · rw [hr] at hsn
        have HS := Lib.hid hsn
        clear hr hsn
        go_wp2_with (at_builtin; refine wpList_append_own _ rfl _ _ 25 rfl w.heap.size 3 i0 (.int .i64 0) 1 8 Try.underlying25 HI.out HZ0.out HZ1.out HZ2.out rfl (by decide) u3 m _ rfl (HO.out.alloc _) ⟨wr.heap.size, 0, none⟩ 1 1 [.int .i64 123] rfl rfl ?c1 ?c2 ?c3 ?c4 ?c5 ?_)
        case c1 =>
          intro j u hju
          match j, hju with
          | 0, hju => simp at hju; subst hju; exact (cell_of_row _ _ 0 _ _ _ (heap_alloc_new wr _)).trans rfl
        case c2 => intro u hu; simp at hu; subst hu; rfl
        case c3 => unfold maxLen; omega
        case c4 => omega
        case c5 => have := HG.out.size; simp; omega
        intro v' w2 hown2 hgb _
        have hrow : ∀ q, u3.ownBlock = some q → w.heap.size ≤ q := fun q hq => (HO.out.lt q hq).1
        have hgr : Gr w w2 := (HG.out.allocO _).grown hgb (fun q hq => by have := hrow q hq; omega)
        have hown3 : w2.ownsRow w.heap.size 3 1 v' (m + 1) (rcodes s (k + 1)) := by rw [HS.out]; exact hown2
        have hl3 : m + 1 = (rcodes s (k + 1)).length := by rw [HS.out, List.length_append, ← HMl.out]; rfl
        have H1 := Lib.hid hgr
        have H3 := Lib.hid hown3
        have H4 := Lib.hid hl3
        clear hown2 hgb hrow hgr hown3 hl3
        go_wp2
        exact ⟨⟨k + 1, m + 1, by omega, by go_num, H1.out, by omega, H4.out, H3.out⟩, by simp [intOf]; omega⟩
      · rw [hr, List.append_nil] at hsn
        have HS := Lib.hid hsn
        clear hr hsn
        go_wp2
        exact ⟨⟨k + 1, m, by omega, by go_num, HG.out, by omega, by rw [HS.out]; exact HMl.out, by rw [HS.out]; exact HO.out⟩, by simp [intOf]; omega⟩
    · obtain rfl : s.size = k := by omega
      go_wp2
      go_ret
      exact ⟨_, rfl, HG.out, by rw [← HMl.out]; exact HO.out⟩
/-- a digit, and the number of the first k -/
def dig (c : UInt8) : Int := if 97 ≤ c.toNat then (c.toNat : Int) - 87 else ((c.toNat : Int) - 48) % 256
def numN (s : ByteArray) (b : Int) : Nat → Int
  | 0 => 0
  | k + 1 => numN s b k * b + (if h : k < s.size then dig s[k] else 0)
theorem dig_bd (c : UInt8) : 0 ≤ dig c ∧ dig c ≤ 255 := by
  have := c.toNat_lt
  unfold dig; split <;> omega
theorem numN_bd (s : ByteArray) (b : Int) (hb : b = 10 ∨ b = 16) : ∀ k, 0 ≤ numN s b k ∧ numN s b k ≤ 255 * 17 ^ k
  | 0 => by simp [numN]
  | k + 1 => by
    have ih := numN_bd s b hb k
    have hd : 0 ≤ (if h : k < s.size then dig s[k] else 0) ∧ (if h : k < s.size then dig s[k] else 0) ≤ 255 := by
      split
      · exact dig_bd _
      · omega
    have hp : (1 : Int) ≤ 17 ^ k := Int.pow_pos (by decide)
    simp only [numN]
    rw [Int.pow_succ]
    rcases hb with rfl | rfl <;> omega
theorem pow17 (k : Nat) (h : k ≤ 6) : (17 : Int) ^ k ≤ 24137569 := by
  have : ∀ i : Fin 7, (17 : Int) ^ i.val ≤ 24137569 := by decide
  exact this ⟨k, by omega⟩
set_option maxHeartbeats 2000000 in
theorem number_any (s : ByteArray) (b : Int) (hb : b = 10 ∨ b = 16) (hs : s.size ≤ 6) (w : World) :
    Calls Try.prog 24 #[.string s, .int .i64 b] w fun e w' => e = .returned (.int .i64 (numN s b s.size)) ∧ w = w' := by
  have HB := Lib.hid (numN_bd s b hb)
  have hbb : 0 ≤ b ∧ b ≤ 16 := by omega
  clear hb
  go_enter Try.func24, Try.ntmps24
  go_wp2_with fail
  go_loop [6, 5] (fun i nv => ∃ k : Nat, k ≤ s.size ∧ i = .int .i64 k ∧ nv = .int .i64 (numN s b k)) (fun i _ => s.size - (intOf i).toNat)
  case atStart => exact ⟨0, by omega, rfl, rfl⟩
  case round =>
    obtain ⟨k, hk, rfl, rfl⟩ := hrel
    have hN := HB.out k
    have hp := pow17 k (by omega)
    by_cases hlt : k < s.size
    · have hs' : numN s b (k + 1) = numN s b k * b + dig s[k] := by simp only [numN]; rw [dif_pos hlt]
      have hx : 0 ≤ numN s b k ∧ numN s b k ≤ 10000000000 := by omega
      have hm : 0 ≤ numN s b k * b ∧ numN s b k * b ≤ 160000000000 := by
        have h1 := Int.mul_le_mul hx.2 hbb.2 hbb.1 (by decide)
        exact ⟨Int.mul_nonneg hx.1 hbb.1, by omega⟩
      have hc0 := s[k].toNat_lt
      have HS := Lib.hid hs'
      clear hs' hN hp
      generalize numN s b k = x at *
      by_cases h97 : 97 ≤ s[k].toNat
      · have hd : dig s[k] = (s[k].toNat : Int) - 87 := by unfold dig; rw [if_pos h97]
        have h97' : (97 : Int) ≤ (s[k].toNat : Int) := by omega
        have HD := Lib.hid hd
        clear hd
        go_wp2
        exact ⟨⟨k + 1, by omega, by go_num, by rw [HS.out, HD.out]; congr 1; omega⟩, by simp [intOf]; omega⟩
      · have hd : dig s[k] = ((s[k].toNat : Int) - 48) % 256 := by unfold dig; rw [if_neg h97]
        have h97' : ¬ (97 : Int) ≤ (s[k].toNat : Int) := by omega
        have HD := Lib.hid hd
        have hdb : 0 ≤ ((s[k].toNat : Int) - 48) % 256 ∧ ((s[k].toNat : Int) - 48) % 256 ≤ 255 := by omega
        clear hd
        go_wp2
        exact ⟨⟨k + 1, by omega, by go_num, by rw [HS.out, HD.out]⟩, by simp [intOf]; omega⟩
    · obtain rfl : s.size = k := by omega
      go_wp2
      go_ret
      exact ⟨rfl, rfl⟩
theorem ret_bb {a b : Bool} (h : a = b) : Ending.returned (.bool a) = .returned (.bool b) := by rw [h]
def fl : List (Int × Int) := [(42, 43), (56, 57), (67, 68), (91, 102), (139, 166), (168, 171), (174, 191), (64787, 64788), (64799, 64802), (64833, 64844), (64862, 64863), (64871, 64874), (64884, 64885), (64890, 64890), (64916, 64916), (64992, 65023)]
def FPassed (k : Nat) (op : Int) : Prop := ∀ c ∈ fl.take k, op < c.1 ∨ c.2 < op
theorem flt_iff (op : Int) : Flt op ↔ ∃ c ∈ fl, c.1 ≤ op ∧ op ≤ c.2 := by
  unfold Flt fl
  simp only [List.mem_cons, List.not_mem_nil, or_false, exists_eq_or_imp, exists_eq_left]
theorem fpassed_all (op : Int) (h : FPassed 16 op) : floatB op = false := by
  unfold floatB
  refine decide_eq_false fun h' => ?_
  obtain ⟨c, hc, h1, h2⟩ := (flt_iff op).1 h'
  have := h c (by rw [show fl.take 16 = fl from rfl]; exact hc)
  omega
set_option maxHeartbeats 4000000 in
theorem rfloat_any (op : Int) (w : World) :
    Calls Try.prog 14 #[.int .i64 op] w fun e w' => e = .returned (.bool (floatB op)) ∧ Gr w w' := by
  generalize hr : floatB op = r
  have HT := Lib.hid (show ∀ c ∈ fl, c.1 ≤ op → op ≤ c.2 → r = true from fun c hc h1 h2 => by rw [← hr]; unfold floatB; exact decide_eq_true ((flt_iff op).2 ⟨c, hc, h1, h2⟩))
  have HF := Lib.hid (show FPassed 16 op → r = false from fun h => by rw [← hr]; exact fpassed_all op h)
  clear hr
  go_enter Try.func14, Try.ntmps14
  go_wp2_with fail
  go_loop [4] (fun iv => ∃ k : Int, 0 ≤ k ∧ k ≤ 16 ∧ iv = .int .i64 (2 * k) ∧ FPassed k.toNat op) (fun iv => (32 - intOf iv).toNat)
  case atStart => exact ⟨0, by decide, by decide, rfl, fun c hc => by cases hc⟩
  case round =>
    obtain ⟨k, hk0, hk1, rfl, hp⟩ := hrel
    have HP := Lib.hid hp
    clear hp
    obtain rfl | rfl | rfl | rfl | rfl | rfl | rfl | rfl | rfl | rfl | rfl | rfl | rfl | rfl | rfl | rfl | rfl : k = 0 ∨ k = 1 ∨ k = 2 ∨ k = 3 ∨ k = 4 ∨ k = 5 ∨ k = 6 ∨ k = 7 ∨ k = 8 ∨ k = 9 ∨ k = 10 ∨ k = 11 ∨ k = 12 ∨ k = 13 ∨ k = 14 ∨ k = 15 ∨ k = 16 := by omega
    · clear hk0 hk1
      by_cases h : 42 ≤ op
      · by_cases h' : op ≤ 43
        · obtain rfl : r = true := HT.out (42, 43) (by decide) h h'
          go_wp2
          go_ret
          exact ⟨rfl, by repeat (first | exact Gr.refl _ | apply Gr.drew | apply Gr.alloc)⟩
        · have HN := Lib.hid (show op < (((42, 43) : Int × Int)).1 ∨ (((42, 43) : Int × Int)).2 < op from .inr (by show (43 : Int) < op; omega))
          go_wp2
          exact ⟨⟨1, by decide, by decide, rfl, fun c hc => by
            have hc' : c ∈ fl.take 0 ∨ c = (42, 43) := by
              have e : fl.take 1 = fl.take 0 ++ [(42, 43)] := rfl
              rw [show ((1 : Int).toNat) = 1 from rfl, e] at hc
              rcases List.mem_append.1 hc with h | h
              · exact Or.inl h
              · exact Or.inr (List.mem_singleton.1 h)
            rcases hc' with h | h
            · exact HP.out c h
            · rw [h]; exact HN.out⟩, by simp [intOf]⟩
      · have HN := Lib.hid (show op < (((42, 43) : Int × Int)).1 ∨ (((42, 43) : Int × Int)).2 < op from .inl (by show op < (42 : Int); omega))
        go_wp2
        exact ⟨⟨1, by decide, by decide, rfl, fun c hc => by
          have hc' : c ∈ fl.take 0 ∨ c = (42, 43) := by
            have e : fl.take 1 = fl.take 0 ++ [(42, 43)] := rfl
            rw [show ((1 : Int).toNat) = 1 from rfl, e] at hc
            rcases List.mem_append.1 hc with h | h
            · exact Or.inl h
            · exact Or.inr (List.mem_singleton.1 h)
          rcases hc' with h | h
          · exact HP.out c h
          · rw [h]; exact HN.out⟩, by simp [intOf]⟩
    · clear hk0 hk1
      by_cases h : 56 ≤ op
      · by_cases h' : op ≤ 57
        · obtain rfl : r = true := HT.out (56, 57) (by decide) h h'
          go_wp2
          go_ret
          exact ⟨rfl, by repeat (first | exact Gr.refl _ | apply Gr.drew | apply Gr.alloc)⟩
        · have HN := Lib.hid (show op < (((56, 57) : Int × Int)).1 ∨ (((56, 57) : Int × Int)).2 < op from .inr (by show (57 : Int) < op; omega))
          go_wp2
          exact ⟨⟨2, by decide, by decide, rfl, fun c hc => by
            have hc' : c ∈ fl.take 1 ∨ c = (56, 57) := by
              have e : fl.take 2 = fl.take 1 ++ [(56, 57)] := rfl
              rw [show ((2 : Int).toNat) = 2 from rfl, e] at hc
              rcases List.mem_append.1 hc with h | h
              · exact Or.inl h
              · exact Or.inr (List.mem_singleton.1 h)
            rcases hc' with h | h
            · exact HP.out c h
            · rw [h]; exact HN.out⟩, by simp [intOf]⟩
      · have HN := Lib.hid (show op < (((56, 57) : Int × Int)).1 ∨ (((56, 57) : Int × Int)).2 < op from .inl (by show op < (56 : Int); omega))
        go_wp2
        exact ⟨⟨2, by decide, by decide, rfl, fun c hc => by
          have hc' : c ∈ fl.take 1 ∨ c = (56, 57) := by
            have e : fl.take 2 = fl.take 1 ++ [(56, 57)] := rfl
            rw [show ((2 : Int).toNat) = 2 from rfl, e] at hc
            rcases List.mem_append.1 hc with h | h
            · exact Or.inl h
            · exact Or.inr (List.mem_singleton.1 h)
          rcases hc' with h | h
          · exact HP.out c h
          · rw [h]; exact HN.out⟩, by simp [intOf]⟩
    · clear hk0 hk1
      by_cases h : 67 ≤ op
      · by_cases h' : op ≤ 68
        · obtain rfl : r = true := HT.out (67, 68) (by decide) h h'
          go_wp2
          go_ret
          exact ⟨rfl, by repeat (first | exact Gr.refl _ | apply Gr.drew | apply Gr.alloc)⟩
        · have HN := Lib.hid (show op < (((67, 68) : Int × Int)).1 ∨ (((67, 68) : Int × Int)).2 < op from .inr (by show (68 : Int) < op; omega))
          go_wp2
          exact ⟨⟨3, by decide, by decide, rfl, fun c hc => by
            have hc' : c ∈ fl.take 2 ∨ c = (67, 68) := by
              have e : fl.take 3 = fl.take 2 ++ [(67, 68)] := rfl
              rw [show ((3 : Int).toNat) = 3 from rfl, e] at hc
              rcases List.mem_append.1 hc with h | h
              · exact Or.inl h
              · exact Or.inr (List.mem_singleton.1 h)
            rcases hc' with h | h
            · exact HP.out c h
            · rw [h]; exact HN.out⟩, by simp [intOf]⟩
      · have HN := Lib.hid (show op < (((67, 68) : Int × Int)).1 ∨ (((67, 68) : Int × Int)).2 < op from .inl (by show op < (67 : Int); omega))
        go_wp2
        exact ⟨⟨3, by decide, by decide, rfl, fun c hc => by
          have hc' : c ∈ fl.take 2 ∨ c = (67, 68) := by
            have e : fl.take 3 = fl.take 2 ++ [(67, 68)] := rfl
            rw [show ((3 : Int).toNat) = 3 from rfl, e] at hc
            rcases List.mem_append.1 hc with h | h
            · exact Or.inl h
            · exact Or.inr (List.mem_singleton.1 h)
          rcases hc' with h | h
          · exact HP.out c h
          · rw [h]; exact HN.out⟩, by simp [intOf]⟩
    · clear hk0 hk1
      by_cases h : 91 ≤ op
      · by_cases h' : op ≤ 102
        · obtain rfl : r = true := HT.out (91, 102) (by decide) h h'
          go_wp2
          go_ret
          exact ⟨rfl, by repeat (first | exact Gr.refl _ | apply Gr.drew | apply Gr.alloc)⟩
        · have HN := Lib.hid (show op < (((91, 102) : Int × Int)).1 ∨ (((91, 102) : Int × Int)).2 < op from .inr (by show (102 : Int) < op; omega))
          go_wp2
          exact ⟨⟨4, by decide, by decide, rfl, fun c hc => by
            have hc' : c ∈ fl.take 3 ∨ c = (91, 102) := by
              have e : fl.take 4 = fl.take 3 ++ [(91, 102)] := rfl
              rw [show ((4 : Int).toNat) = 4 from rfl, e] at hc
              rcases List.mem_append.1 hc with h | h
              · exact Or.inl h
              · exact Or.inr (List.mem_singleton.1 h)
            rcases hc' with h | h
            · exact HP.out c h
            · rw [h]; exact HN.out⟩, by simp [intOf]⟩
      · have HN := Lib.hid (show op < (((91, 102) : Int × Int)).1 ∨ (((91, 102) : Int × Int)).2 < op from .inl (by show op < (91 : Int); omega))
        go_wp2
        exact ⟨⟨4, by decide, by decide, rfl, fun c hc => by
          have hc' : c ∈ fl.take 3 ∨ c = (91, 102) := by
            have e : fl.take 4 = fl.take 3 ++ [(91, 102)] := rfl
            rw [show ((4 : Int).toNat) = 4 from rfl, e] at hc
            rcases List.mem_append.1 hc with h | h
            · exact Or.inl h
            · exact Or.inr (List.mem_singleton.1 h)
          rcases hc' with h | h
          · exact HP.out c h
          · rw [h]; exact HN.out⟩, by simp [intOf]⟩
    · clear hk0 hk1
      by_cases h : 139 ≤ op
      · by_cases h' : op ≤ 166
        · obtain rfl : r = true := HT.out (139, 166) (by decide) h h'
          go_wp2
          go_ret
          exact ⟨rfl, by repeat (first | exact Gr.refl _ | apply Gr.drew | apply Gr.alloc)⟩
        · have HN := Lib.hid (show op < (((139, 166) : Int × Int)).1 ∨ (((139, 166) : Int × Int)).2 < op from .inr (by show (166 : Int) < op; omega))
          go_wp2
          exact ⟨⟨5, by decide, by decide, rfl, fun c hc => by
            have hc' : c ∈ fl.take 4 ∨ c = (139, 166) := by
              have e : fl.take 5 = fl.take 4 ++ [(139, 166)] := rfl
              rw [show ((5 : Int).toNat) = 5 from rfl, e] at hc
              rcases List.mem_append.1 hc with h | h
              · exact Or.inl h
              · exact Or.inr (List.mem_singleton.1 h)
            rcases hc' with h | h
            · exact HP.out c h
            · rw [h]; exact HN.out⟩, by simp [intOf]⟩
      · have HN := Lib.hid (show op < (((139, 166) : Int × Int)).1 ∨ (((139, 166) : Int × Int)).2 < op from .inl (by show op < (139 : Int); omega))
        go_wp2
        exact ⟨⟨5, by decide, by decide, rfl, fun c hc => by
          have hc' : c ∈ fl.take 4 ∨ c = (139, 166) := by
            have e : fl.take 5 = fl.take 4 ++ [(139, 166)] := rfl
            rw [show ((5 : Int).toNat) = 5 from rfl, e] at hc
            rcases List.mem_append.1 hc with h | h
            · exact Or.inl h
            · exact Or.inr (List.mem_singleton.1 h)
          rcases hc' with h | h
          · exact HP.out c h
          · rw [h]; exact HN.out⟩, by simp [intOf]⟩
    · clear hk0 hk1
      by_cases h : 168 ≤ op
      · by_cases h' : op ≤ 171
        · obtain rfl : r = true := HT.out (168, 171) (by decide) h h'
          go_wp2
          go_ret
          exact ⟨rfl, by repeat (first | exact Gr.refl _ | apply Gr.drew | apply Gr.alloc)⟩
        · have HN := Lib.hid (show op < (((168, 171) : Int × Int)).1 ∨ (((168, 171) : Int × Int)).2 < op from .inr (by show (171 : Int) < op; omega))
          go_wp2
          exact ⟨⟨6, by decide, by decide, rfl, fun c hc => by
            have hc' : c ∈ fl.take 5 ∨ c = (168, 171) := by
              have e : fl.take 6 = fl.take 5 ++ [(168, 171)] := rfl
              rw [show ((6 : Int).toNat) = 6 from rfl, e] at hc
              rcases List.mem_append.1 hc with h | h
              · exact Or.inl h
              · exact Or.inr (List.mem_singleton.1 h)
            rcases hc' with h | h
            · exact HP.out c h
            · rw [h]; exact HN.out⟩, by simp [intOf]⟩
      · have HN := Lib.hid (show op < (((168, 171) : Int × Int)).1 ∨ (((168, 171) : Int × Int)).2 < op from .inl (by show op < (168 : Int); omega))
        go_wp2
        exact ⟨⟨6, by decide, by decide, rfl, fun c hc => by
          have hc' : c ∈ fl.take 5 ∨ c = (168, 171) := by
            have e : fl.take 6 = fl.take 5 ++ [(168, 171)] := rfl
            rw [show ((6 : Int).toNat) = 6 from rfl, e] at hc
            rcases List.mem_append.1 hc with h | h
            · exact Or.inl h
            · exact Or.inr (List.mem_singleton.1 h)
          rcases hc' with h | h
          · exact HP.out c h
          · rw [h]; exact HN.out⟩, by simp [intOf]⟩
    · clear hk0 hk1
      by_cases h : 174 ≤ op
      · by_cases h' : op ≤ 191
        · obtain rfl : r = true := HT.out (174, 191) (by decide) h h'
          go_wp2
          go_ret
          exact ⟨rfl, by repeat (first | exact Gr.refl _ | apply Gr.drew | apply Gr.alloc)⟩
        · have HN := Lib.hid (show op < (((174, 191) : Int × Int)).1 ∨ (((174, 191) : Int × Int)).2 < op from .inr (by show (191 : Int) < op; omega))
          go_wp2
          exact ⟨⟨7, by decide, by decide, rfl, fun c hc => by
            have hc' : c ∈ fl.take 6 ∨ c = (174, 191) := by
              have e : fl.take 7 = fl.take 6 ++ [(174, 191)] := rfl
              rw [show ((7 : Int).toNat) = 7 from rfl, e] at hc
              rcases List.mem_append.1 hc with h | h
              · exact Or.inl h
              · exact Or.inr (List.mem_singleton.1 h)
            rcases hc' with h | h
            · exact HP.out c h
            · rw [h]; exact HN.out⟩, by simp [intOf]⟩
      · have HN := Lib.hid (show op < (((174, 191) : Int × Int)).1 ∨ (((174, 191) : Int × Int)).2 < op from .inl (by show op < (174 : Int); omega))
        go_wp2
        exact ⟨⟨7, by decide, by decide, rfl, fun c hc => by
          have hc' : c ∈ fl.take 6 ∨ c = (174, 191) := by
            have e : fl.take 7 = fl.take 6 ++ [(174, 191)] := rfl
            rw [show ((7 : Int).toNat) = 7 from rfl, e] at hc
            rcases List.mem_append.1 hc with h | h
            · exact Or.inl h
            · exact Or.inr (List.mem_singleton.1 h)
          rcases hc' with h | h
          · exact HP.out c h
          · rw [h]; exact HN.out⟩, by simp [intOf]⟩
    · clear hk0 hk1
      by_cases h : 64787 ≤ op
      · by_cases h' : op ≤ 64788
        · obtain rfl : r = true := HT.out (64787, 64788) (by decide) h h'
          go_wp2
          go_ret
          exact ⟨rfl, by repeat (first | exact Gr.refl _ | apply Gr.drew | apply Gr.alloc)⟩
        · have HN := Lib.hid (show op < (((64787, 64788) : Int × Int)).1 ∨ (((64787, 64788) : Int × Int)).2 < op from .inr (by show (64788 : Int) < op; omega))
          go_wp2
          exact ⟨⟨8, by decide, by decide, rfl, fun c hc => by
            have hc' : c ∈ fl.take 7 ∨ c = (64787, 64788) := by
              have e : fl.take 8 = fl.take 7 ++ [(64787, 64788)] := rfl
              rw [show ((8 : Int).toNat) = 8 from rfl, e] at hc
              rcases List.mem_append.1 hc with h | h
              · exact Or.inl h
              · exact Or.inr (List.mem_singleton.1 h)
            rcases hc' with h | h
            · exact HP.out c h
            · rw [h]; exact HN.out⟩, by simp [intOf]⟩
      · have HN := Lib.hid (show op < (((64787, 64788) : Int × Int)).1 ∨ (((64787, 64788) : Int × Int)).2 < op from .inl (by show op < (64787 : Int); omega))
        go_wp2
        exact ⟨⟨8, by decide, by decide, rfl, fun c hc => by
          have hc' : c ∈ fl.take 7 ∨ c = (64787, 64788) := by
            have e : fl.take 8 = fl.take 7 ++ [(64787, 64788)] := rfl
            rw [show ((8 : Int).toNat) = 8 from rfl, e] at hc
            rcases List.mem_append.1 hc with h | h
            · exact Or.inl h
            · exact Or.inr (List.mem_singleton.1 h)
          rcases hc' with h | h
          · exact HP.out c h
          · rw [h]; exact HN.out⟩, by simp [intOf]⟩
    · clear hk0 hk1
      by_cases h : 64799 ≤ op
      · by_cases h' : op ≤ 64802
        · obtain rfl : r = true := HT.out (64799, 64802) (by decide) h h'
          go_wp2
          go_ret
          exact ⟨rfl, by repeat (first | exact Gr.refl _ | apply Gr.drew | apply Gr.alloc)⟩
        · have HN := Lib.hid (show op < (((64799, 64802) : Int × Int)).1 ∨ (((64799, 64802) : Int × Int)).2 < op from .inr (by show (64802 : Int) < op; omega))
          go_wp2
          exact ⟨⟨9, by decide, by decide, rfl, fun c hc => by
            have hc' : c ∈ fl.take 8 ∨ c = (64799, 64802) := by
              have e : fl.take 9 = fl.take 8 ++ [(64799, 64802)] := rfl
              rw [show ((9 : Int).toNat) = 9 from rfl, e] at hc
              rcases List.mem_append.1 hc with h | h
              · exact Or.inl h
              · exact Or.inr (List.mem_singleton.1 h)
            rcases hc' with h | h
            · exact HP.out c h
            · rw [h]; exact HN.out⟩, by simp [intOf]⟩
      · have HN := Lib.hid (show op < (((64799, 64802) : Int × Int)).1 ∨ (((64799, 64802) : Int × Int)).2 < op from .inl (by show op < (64799 : Int); omega))
        go_wp2
        exact ⟨⟨9, by decide, by decide, rfl, fun c hc => by
          have hc' : c ∈ fl.take 8 ∨ c = (64799, 64802) := by
            have e : fl.take 9 = fl.take 8 ++ [(64799, 64802)] := rfl
            rw [show ((9 : Int).toNat) = 9 from rfl, e] at hc
            rcases List.mem_append.1 hc with h | h
            · exact Or.inl h
            · exact Or.inr (List.mem_singleton.1 h)
          rcases hc' with h | h
          · exact HP.out c h
          · rw [h]; exact HN.out⟩, by simp [intOf]⟩
    · clear hk0 hk1
      by_cases h : 64833 ≤ op
      · by_cases h' : op ≤ 64844
        · obtain rfl : r = true := HT.out (64833, 64844) (by decide) h h'
          go_wp2
          go_ret
          exact ⟨rfl, by repeat (first | exact Gr.refl _ | apply Gr.drew | apply Gr.alloc)⟩
        · have HN := Lib.hid (show op < (((64833, 64844) : Int × Int)).1 ∨ (((64833, 64844) : Int × Int)).2 < op from .inr (by show (64844 : Int) < op; omega))
          go_wp2
          exact ⟨⟨10, by decide, by decide, rfl, fun c hc => by
            have hc' : c ∈ fl.take 9 ∨ c = (64833, 64844) := by
              have e : fl.take 10 = fl.take 9 ++ [(64833, 64844)] := rfl
              rw [show ((10 : Int).toNat) = 10 from rfl, e] at hc
              rcases List.mem_append.1 hc with h | h
              · exact Or.inl h
              · exact Or.inr (List.mem_singleton.1 h)
            rcases hc' with h | h
            · exact HP.out c h
            · rw [h]; exact HN.out⟩, by simp [intOf]⟩
      · have HN := Lib.hid (show op < (((64833, 64844) : Int × Int)).1 ∨ (((64833, 64844) : Int × Int)).2 < op from .inl (by show op < (64833 : Int); omega))
        go_wp2
        exact ⟨⟨10, by decide, by decide, rfl, fun c hc => by
          have hc' : c ∈ fl.take 9 ∨ c = (64833, 64844) := by
            have e : fl.take 10 = fl.take 9 ++ [(64833, 64844)] := rfl
            rw [show ((10 : Int).toNat) = 10 from rfl, e] at hc
            rcases List.mem_append.1 hc with h | h
            · exact Or.inl h
            · exact Or.inr (List.mem_singleton.1 h)
          rcases hc' with h | h
          · exact HP.out c h
          · rw [h]; exact HN.out⟩, by simp [intOf]⟩
    · clear hk0 hk1
      by_cases h : 64862 ≤ op
      · by_cases h' : op ≤ 64863
        · obtain rfl : r = true := HT.out (64862, 64863) (by decide) h h'
          go_wp2
          go_ret
          exact ⟨rfl, by repeat (first | exact Gr.refl _ | apply Gr.drew | apply Gr.alloc)⟩
        · have HN := Lib.hid (show op < (((64862, 64863) : Int × Int)).1 ∨ (((64862, 64863) : Int × Int)).2 < op from .inr (by show (64863 : Int) < op; omega))
          go_wp2
          exact ⟨⟨11, by decide, by decide, rfl, fun c hc => by
            have hc' : c ∈ fl.take 10 ∨ c = (64862, 64863) := by
              have e : fl.take 11 = fl.take 10 ++ [(64862, 64863)] := rfl
              rw [show ((11 : Int).toNat) = 11 from rfl, e] at hc
              rcases List.mem_append.1 hc with h | h
              · exact Or.inl h
              · exact Or.inr (List.mem_singleton.1 h)
            rcases hc' with h | h
            · exact HP.out c h
            · rw [h]; exact HN.out⟩, by simp [intOf]⟩
      · have HN := Lib.hid (show op < (((64862, 64863) : Int × Int)).1 ∨ (((64862, 64863) : Int × Int)).2 < op from .inl (by show op < (64862 : Int); omega))
        go_wp2
        exact ⟨⟨11, by decide, by decide, rfl, fun c hc => by
          have hc' : c ∈ fl.take 10 ∨ c = (64862, 64863) := by
            have e : fl.take 11 = fl.take 10 ++ [(64862, 64863)] := rfl
            rw [show ((11 : Int).toNat) = 11 from rfl, e] at hc
            rcases List.mem_append.1 hc with h | h
            · exact Or.inl h
            · exact Or.inr (List.mem_singleton.1 h)
          rcases hc' with h | h
          · exact HP.out c h
          · rw [h]; exact HN.out⟩, by simp [intOf]⟩
    · clear hk0 hk1
      by_cases h : 64871 ≤ op
      · by_cases h' : op ≤ 64874
        · obtain rfl : r = true := HT.out (64871, 64874) (by decide) h h'
          go_wp2
          go_ret
          exact ⟨rfl, by repeat (first | exact Gr.refl _ | apply Gr.drew | apply Gr.alloc)⟩
        · have HN := Lib.hid (show op < (((64871, 64874) : Int × Int)).1 ∨ (((64871, 64874) : Int × Int)).2 < op from .inr (by show (64874 : Int) < op; omega))
          go_wp2
          exact ⟨⟨12, by decide, by decide, rfl, fun c hc => by
            have hc' : c ∈ fl.take 11 ∨ c = (64871, 64874) := by
              have e : fl.take 12 = fl.take 11 ++ [(64871, 64874)] := rfl
              rw [show ((12 : Int).toNat) = 12 from rfl, e] at hc
              rcases List.mem_append.1 hc with h | h
              · exact Or.inl h
              · exact Or.inr (List.mem_singleton.1 h)
            rcases hc' with h | h
            · exact HP.out c h
            · rw [h]; exact HN.out⟩, by simp [intOf]⟩
      · have HN := Lib.hid (show op < (((64871, 64874) : Int × Int)).1 ∨ (((64871, 64874) : Int × Int)).2 < op from .inl (by show op < (64871 : Int); omega))
        go_wp2
        exact ⟨⟨12, by decide, by decide, rfl, fun c hc => by
          have hc' : c ∈ fl.take 11 ∨ c = (64871, 64874) := by
            have e : fl.take 12 = fl.take 11 ++ [(64871, 64874)] := rfl
            rw [show ((12 : Int).toNat) = 12 from rfl, e] at hc
            rcases List.mem_append.1 hc with h | h
            · exact Or.inl h
            · exact Or.inr (List.mem_singleton.1 h)
          rcases hc' with h | h
          · exact HP.out c h
          · rw [h]; exact HN.out⟩, by simp [intOf]⟩
    · clear hk0 hk1
      by_cases h : 64884 ≤ op
      · by_cases h' : op ≤ 64885
        · obtain rfl : r = true := HT.out (64884, 64885) (by decide) h h'
          go_wp2
          go_ret
          exact ⟨rfl, by repeat (first | exact Gr.refl _ | apply Gr.drew | apply Gr.alloc)⟩
        · have HN := Lib.hid (show op < (((64884, 64885) : Int × Int)).1 ∨ (((64884, 64885) : Int × Int)).2 < op from .inr (by show (64885 : Int) < op; omega))
          go_wp2
          exact ⟨⟨13, by decide, by decide, rfl, fun c hc => by
            have hc' : c ∈ fl.take 12 ∨ c = (64884, 64885) := by
              have e : fl.take 13 = fl.take 12 ++ [(64884, 64885)] := rfl
              rw [show ((13 : Int).toNat) = 13 from rfl, e] at hc
              rcases List.mem_append.1 hc with h | h
              · exact Or.inl h
              · exact Or.inr (List.mem_singleton.1 h)
            rcases hc' with h | h
            · exact HP.out c h
            · rw [h]; exact HN.out⟩, by simp [intOf]⟩
      · have HN := Lib.hid (show op < (((64884, 64885) : Int × Int)).1 ∨ (((64884, 64885) : Int × Int)).2 < op from .inl (by show op < (64884 : Int); omega))
        go_wp2
        exact ⟨⟨13, by decide, by decide, rfl, fun c hc => by
          have hc' : c ∈ fl.take 12 ∨ c = (64884, 64885) := by
            have e : fl.take 13 = fl.take 12 ++ [(64884, 64885)] := rfl
            rw [show ((13 : Int).toNat) = 13 from rfl, e] at hc
            rcases List.mem_append.1 hc with h | h
            · exact Or.inl h
            · exact Or.inr (List.mem_singleton.1 h)
          rcases hc' with h | h
          · exact HP.out c h
          · rw [h]; exact HN.out⟩, by simp [intOf]⟩
    · clear hk0 hk1
      by_cases h : 64890 ≤ op
      · by_cases h' : op ≤ 64890
        · obtain rfl : r = true := HT.out (64890, 64890) (by decide) h h'
          go_wp2
          go_ret
          exact ⟨rfl, by repeat (first | exact Gr.refl _ | apply Gr.drew | apply Gr.alloc)⟩
        · have HN := Lib.hid (show op < (((64890, 64890) : Int × Int)).1 ∨ (((64890, 64890) : Int × Int)).2 < op from .inr (by show (64890 : Int) < op; omega))
          go_wp2
          exact ⟨⟨14, by decide, by decide, rfl, fun c hc => by
            have hc' : c ∈ fl.take 13 ∨ c = (64890, 64890) := by
              have e : fl.take 14 = fl.take 13 ++ [(64890, 64890)] := rfl
              rw [show ((14 : Int).toNat) = 14 from rfl, e] at hc
              rcases List.mem_append.1 hc with h | h
              · exact Or.inl h
              · exact Or.inr (List.mem_singleton.1 h)
            rcases hc' with h | h
            · exact HP.out c h
            · rw [h]; exact HN.out⟩, by simp [intOf]⟩
      · have HN := Lib.hid (show op < (((64890, 64890) : Int × Int)).1 ∨ (((64890, 64890) : Int × Int)).2 < op from .inl (by show op < (64890 : Int); omega))
        go_wp2
        exact ⟨⟨14, by decide, by decide, rfl, fun c hc => by
          have hc' : c ∈ fl.take 13 ∨ c = (64890, 64890) := by
            have e : fl.take 14 = fl.take 13 ++ [(64890, 64890)] := rfl
            rw [show ((14 : Int).toNat) = 14 from rfl, e] at hc
            rcases List.mem_append.1 hc with h | h
            · exact Or.inl h
            · exact Or.inr (List.mem_singleton.1 h)
          rcases hc' with h | h
          · exact HP.out c h
          · rw [h]; exact HN.out⟩, by simp [intOf]⟩
    · clear hk0 hk1
      by_cases h : 64916 ≤ op
      · by_cases h' : op ≤ 64916
        · obtain rfl : r = true := HT.out (64916, 64916) (by decide) h h'
          go_wp2
          go_ret
          exact ⟨rfl, by repeat (first | exact Gr.refl _ | apply Gr.drew | apply Gr.alloc)⟩
        · have HN := Lib.hid (show op < (((64916, 64916) : Int × Int)).1 ∨ (((64916, 64916) : Int × Int)).2 < op from .inr (by show (64916 : Int) < op; omega))
          go_wp2
          exact ⟨⟨15, by decide, by decide, rfl, fun c hc => by
            have hc' : c ∈ fl.take 14 ∨ c = (64916, 64916) := by
              have e : fl.take 15 = fl.take 14 ++ [(64916, 64916)] := rfl
              rw [show ((15 : Int).toNat) = 15 from rfl, e] at hc
              rcases List.mem_append.1 hc with h | h
              · exact Or.inl h
              · exact Or.inr (List.mem_singleton.1 h)
            rcases hc' with h | h
            · exact HP.out c h
            · rw [h]; exact HN.out⟩, by simp [intOf]⟩
      · have HN := Lib.hid (show op < (((64916, 64916) : Int × Int)).1 ∨ (((64916, 64916) : Int × Int)).2 < op from .inl (by show op < (64916 : Int); omega))
        go_wp2
        exact ⟨⟨15, by decide, by decide, rfl, fun c hc => by
          have hc' : c ∈ fl.take 14 ∨ c = (64916, 64916) := by
            have e : fl.take 15 = fl.take 14 ++ [(64916, 64916)] := rfl
            rw [show ((15 : Int).toNat) = 15 from rfl, e] at hc
            rcases List.mem_append.1 hc with h | h
            · exact Or.inl h
            · exact Or.inr (List.mem_singleton.1 h)
          rcases hc' with h | h
          · exact HP.out c h
          · rw [h]; exact HN.out⟩, by simp [intOf]⟩
    · clear hk0 hk1
      by_cases h : 64992 ≤ op
      · by_cases h' : op ≤ 65023
        · obtain rfl : r = true := HT.out (64992, 65023) (by decide) h h'
          go_wp2
          go_ret
          exact ⟨rfl, by repeat (first | exact Gr.refl _ | apply Gr.drew | apply Gr.alloc)⟩
        · have HN := Lib.hid (show op < (((64992, 65023) : Int × Int)).1 ∨ (((64992, 65023) : Int × Int)).2 < op from .inr (by show (65023 : Int) < op; omega))
          go_wp2
          exact ⟨⟨16, by decide, by decide, rfl, fun c hc => by
            have hc' : c ∈ fl.take 15 ∨ c = (64992, 65023) := by
              have e : fl.take 16 = fl.take 15 ++ [(64992, 65023)] := rfl
              rw [show ((16 : Int).toNat) = 16 from rfl, e] at hc
              rcases List.mem_append.1 hc with h | h
              · exact Or.inl h
              · exact Or.inr (List.mem_singleton.1 h)
            rcases hc' with h | h
            · exact HP.out c h
            · rw [h]; exact HN.out⟩, by simp [intOf]⟩
      · have HN := Lib.hid (show op < (((64992, 65023) : Int × Int)).1 ∨ (((64992, 65023) : Int × Int)).2 < op from .inl (by show op < (64992 : Int); omega))
        go_wp2
        exact ⟨⟨16, by decide, by decide, rfl, fun c hc => by
          have hc' : c ∈ fl.take 15 ∨ c = (64992, 65023) := by
            have e : fl.take 16 = fl.take 15 ++ [(64992, 65023)] := rfl
            rw [show ((16 : Int).toNat) = 16 from rfl, e] at hc
            rcases List.mem_append.1 hc with h | h
            · exact Or.inl h
            · exact Or.inr (List.mem_singleton.1 h)
          rcases hc' with h | h
          · exact HP.out c h
          · rw [h]; exact HN.out⟩, by simp [intOf]⟩
    · clear hk0 hk1
      obtain rfl : r = false := HF.out HP.out
      go_wp2
      go_ret
      exact ⟨rfl, by repeat (first | exact Gr.refl _ | apply Gr.drew | apply Gr.alloc)⟩
end Ins
end Go.Proofs.Ytakleaonmlompaa
