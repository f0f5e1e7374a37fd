/-
  Texts of this seat, joined: ExT, ExH, ExF, ExG. Each says what it proves.
-/
import Derived.Test.YtebkabidojipoaaMk5
import Derived.Test.YtebkabidojipoaaMk6
import Derived.Test.YtebkabidojipoaaMk9
/- ExT -/
namespace Go.Proofs.Ytebkabidojipoaa
open Go.RowKit VecM LebM
namespace Ex
theorem opcode_any {w : World} {g : Nat} {sv ov : Value} {s : St} {cl : Bool} {len : Nat} {f : Nat → Int} (hf : By f) (h : RS w g sv s ov cl) (hb : Bys w g sv len f) (hok : Ok len s) :
  Calls Try.prog 27 #[.pointer (some ⟨g, 0, none⟩)] w fun e w' => e = .returned (.int .i64 (opcS f len s).1) ∧ RDN w g sv (opcS f len s).2 ov cl w' := by
 have HO := Lib.hid (octet_any h hb hok)
 have hc := octS_bd hf (len := len) s
 have e0 : opcS f len s = if (octS f len s).1 = 253 then (64768 + (numS f len (octS f len s).2).1, (numS f len (octS f len s).2).2)
  else if (octS f len s).1 = 252 then (0, failS (if (numS f len (octS f len s).2).1 < 8 ∧ (numS f len (octS f len s).2).2.e = 0 then failS (numS f len (octS f len s).2).2 11 else (numS f len (octS f len s).2).2) 10)
  else octS f len s := rfl
 generalize octS f len s = r at *
 obtain ⟨c, s1⟩ := r
 dsimp only at e0 hc
 have HO' := Lib.hid (show Calls Try.prog 54 #[.pointer (some ⟨g, 0, none⟩)] w fun e w' => e = .returned (.int .u8 c) ∧ RDN w g sv s1 ov cl w' from HO.out)
 have HB := Lib.hid (fun w1 (hs : Sep (One g) w w1) => bys_one hb hs)
 clear HO h hb
 have T1 : IntKind.i64.wrap c = c := by rw [IntKind.wrap_i64]; omega
 by_cases h253 : c = 253
 ·rw [e0, if_pos h253]
  have hn := numS_bd hf (len := len) s1
  have HNM := Lib.hid (fun w1 (h1 : RS w1 g sv s1 ov cl) (hb1 : Bys w1 g sv len f) => number_any hf h1 hb1)
  generalize numS f len s1 = r at *
  obtain ⟨n, s2⟩ := r
  dsimp only at hn
  have T2 : IntKind.i64.wrap (64768 + n) = 64768 + n := by rw [IntKind.wrap_i64]; omega
  subst h253
  clear e0 hc
  go_enter Try.func27, Try.ntmps27
  go_wp2_with fail
  refine HO'.out.mono ?_
  rintro e w1 ⟨rfl, h1, h2⟩
  have H2 := Lib.hid h2
  have HNM1 := Lib.hid (show Calls Try.prog 55 #[.pointer (some ⟨g, 0, none⟩)] w1 fun e w' => e = .returned (.int .i64 n) ∧ RDN w1 g sv s2 ov cl w' from HNM.out w1 h1 (HB.out w1 h2))
  clear h1 h2 HNM
  go_wp2_with fail
  refine HNM1.out.mono ?_
  rintro e w2 ⟨rfl, h1, h2⟩
  have H3 := Lib.hid (And.intro h1 (Sep.trans H2.out h2))
  clear h1 h2
  go_wp2
  go_ret
  exact ⟨rfl, H3.out⟩
 ·rw [e0, if_neg h253]
  have n1 : (c == 253) = false := by simpa using h253
  by_cases h252 : c = 252
  ·rw [if_pos h252]
   have HNM := Lib.hid (fun w1 (h1 : RS w1 g sv s1 ov cl) (hb1 : Bys w1 g sv len f) => number_any hf h1 hb1)
   generalize numS f len s1 = r at *
   obtain ⟨n, s2⟩ := r
   dsimp only
   subst h252
   clear e0 hc n1 T1
   go_enter Try.func27, Try.ntmps27
   go_wp2_with fail
   refine HO'.out.mono ?_
   rintro e w1 ⟨rfl, h1, h2⟩
   have H2 := Lib.hid h2
   have HNM1 := Lib.hid (show Calls Try.prog 55 #[.pointer (some ⟨g, 0, none⟩)] w1 fun e w' => e = .returned (.int .i64 n) ∧ RDN w1 g sv s2 ov cl w' from HNM.out w1 h1 (HB.out w1 h2))
   clear h1 h2 HNM
   go_wp2_with fail
   refine HNM1.out.mono ?_
   rintro e w2 ⟨rfl, h1, h2⟩
   have H3 := Lib.hid (And.intro h1 (Sep.trans H2.out h2))
   obtain ⟨_, _, a2, _, _⟩ := cells5 h1
   clear h1 h2
   obtain ⟨sa, se⟩ := s2
   dsimp only at a2
   by_cases h8 : n < 8
   ·have d1 : decide (n < 8) = true := decide_eq_true h8
    by_cases he : se = 0
    ·subst he
     go_wp2_with fail
     refine (fail_any H3.out.1 11).mono ?_
     rintro e w3 ⟨rfl, h1, h2⟩
     have H4 := Lib.hid (And.intro h1 (Sep.trans H3.out.2 h2))
     clear h1 h2
     go_wp2_with fail
     refine (fail_any H4.out.1 10).mono ?_
     rintro e w4 ⟨rfl, h1, h2⟩
     have H5 := Lib.hid (And.intro h1 (Sep.trans H4.out.2 h2))
     clear h1 h2
     go_wp2
     go_ret
     try rw [if_pos ⟨h8, rfl⟩]
     exact ⟨rfl, H5.out⟩
    ·have hne : ¬ (n < 8 ∧ se = 0) := fun e => he e.2
     have n2 : (se == 0) = false := by simpa using he
     go_wp2_with fail
     refine (fail_any H3.out.1 10).mono ?_
     rintro e w4 ⟨rfl, h1, h2⟩
     have H5 := Lib.hid (And.intro h1 (Sep.trans H3.out.2 h2))
     clear h1 h2
     go_wp2
     go_ret
     try rw [if_neg hne]
     exact ⟨rfl, H5.out⟩
   ·have hne : ¬ (n < 8 ∧ se = 0) := fun e => h8 e.1
    have d1 : decide (n < 8) = false := decide_eq_false h8
    go_wp2_with fail
    refine (fail_any H3.out.1 10).mono ?_
    rintro e w4 ⟨rfl, h1, h2⟩
    have H5 := Lib.hid (And.intro h1 (Sep.trans H3.out.2 h2))
    clear h1 h2
    go_wp2
    go_ret
    try rw [if_neg hne]
    exact ⟨rfl, H5.out⟩
  ·rw [if_neg h252]
   have n2 : (c == 252) = false := by simpa using h252
   clear e0 h253 h252 hc
   go_enter Try.func27, Try.ntmps27
   go_wp2_with fail
   refine HO'.out.mono ?_
   rintro e w1 ⟨rfl, h1, h2⟩
   have H2 := Lib.hid (And.intro h1 h2)
   clear h1 h2
   go_wp2
   go_ret
   exact ⟨rfl, H2.out⟩
theorem type_tail {w : World} {g : Nat} {sv ov : Value} {s : St} {cl : Bool} {len : Nat} {f : Nat → Int} (hf : By f) (h : RS w g sv s ov cl) (hb : Bys w g sv len f) :
  Calls Try.prog 58 #[.pointer (some ⟨g, 0, none⟩), .int .i64 33] w fun e w' => ∃ n s2, typS f len s = (n, if n < 0 then failS s2 10 else s2) ∧ e = .returned (.int .i64 n) ∧ RDN w g sv s2 ov cl w' :=
 (signed_any hf 33 h hb).mono fun _e _w' hh => ⟨_, _, rfl, hh.1, hh.2⟩
set_option maxHeartbeats 1000000 in
theorem blockType_any {w : World} {g : Nat} {sv ov : Value} {s : St} {cl : Bool} {len : Nat} {f : Nat → Int} (hf : By f) (h : RS w g sv s ov cl) (hb : Bys w g sv len f) (hok : Ok len s) :
  Calls Try.prog 57 #[.pointer (some ⟨g, 0, none⟩)] w fun e w' => e = .returned (.int .i64 (blkS f len s).1) ∧ RDN w g sv (blkS f len s).2 ov cl w' := by
 have HB := Lib.hid hb
 have H := Lib.hid h
 obtain ⟨a0, a1, a2, _, _⟩ := cells5 h
 by_cases hl : s.e = 0 ∧ s.a < len
 ·have e0 : blkS f len s = if f s.a.toNat = 64 ∨ f s.a.toNat = 127 ∨ f s.a.toNat = 126 ∨ f s.a.toNat = 123 then sgnS f len 7 s
   else if f s.a.toNat = 125 ∨ f s.a.toNat = 124 then typS f len (failS s 11) else typS f len s := if_pos hl
  rw [e0]
  have hl1 := hok.lo
  obtain ⟨n, hn⟩ := Int.eq_ofNat_of_zero_le hl1
  rcases hb.1 with ⟨h0, _⟩ | ⟨hlen, b, off, cap, rfl, hc⟩
  ·omega
  have c1 := hc n (by omega)
  rw [hl.1] at a2
  rw [hn] at a1
  have ee : s.a.toNat = n := by omega
  rw [ee]
  have d0 : decide ((n : Int) < (len : Int)) = true := decide_eq_true (by omega)
  clear h hb hok e0 ee hc
  generalize f n = x at *
  by_cases h4 : x = 64 ∨ x = 127 ∨ x = 126 ∨ x = 123
  ·rw [if_pos h4]
   rcases h4 with rfl | rfl | rfl | rfl
   ·go_enter Try.func57, Try.ntmps57
    go_wp2_with fail
    go_quiet (fail)
    go_wp2_with fail
    go_quiet (fail)
    go_wp2_with fail
    refine (signed_any hf 7 (rs_drew H.out _) (bys_one HB.out ((Sep.refl w).drewN _))).mono ?_
    rintro e w8 ⟨rfl, h1, h2⟩
    have H8 := Lib.hid (And.intro h1 (Sep.trans ((Sep.refl w).drewN _) h2))
    clear h1 h2
    go_wp2
    go_ret
    exact ⟨rfl, H8.out⟩
   ·go_enter Try.func57, Try.ntmps57
    go_wp2_with fail
    go_quiet (fail)
    go_wp2_with fail
    go_quiet (fail)
    go_wp2_with fail
    refine (signed_any hf 7 (rs_drew H.out _) (bys_one HB.out ((Sep.refl w).drewN _))).mono ?_
    rintro e w8 ⟨rfl, h1, h2⟩
    have H8 := Lib.hid (And.intro h1 (Sep.trans ((Sep.refl w).drewN _) h2))
    clear h1 h2
    go_wp2
    go_ret
    exact ⟨rfl, H8.out⟩
   ·go_enter Try.func57, Try.ntmps57
    go_wp2_with fail
    go_quiet (fail)
    go_wp2_with fail
    go_quiet (fail)
    go_wp2_with fail
    refine (signed_any hf 7 (rs_drew H.out _) (bys_one HB.out ((Sep.refl w).drewN _))).mono ?_
    rintro e w8 ⟨rfl, h1, h2⟩
    have H8 := Lib.hid (And.intro h1 (Sep.trans ((Sep.refl w).drewN _) h2))
    clear h1 h2
    go_wp2
    go_ret
    exact ⟨rfl, H8.out⟩
   ·go_enter Try.func57, Try.ntmps57
    go_wp2_with fail
    go_quiet (fail)
    go_wp2_with fail
    go_quiet (fail)
    go_wp2_with fail
    refine (signed_any hf 7 (rs_drew H.out _) (bys_one HB.out ((Sep.refl w).drewN _))).mono ?_
    rintro e w8 ⟨rfl, h1, h2⟩
    have H8 := Lib.hid (And.intro h1 (Sep.trans ((Sep.refl w).drewN _) h2))
    clear h1 h2
    go_wp2
    go_ret
    exact ⟨rfl, H8.out⟩
  ·rw [if_neg h4]
   have n1 : (x == 64) = false := by simpa using (fun e => h4 (.inl e) : ¬ x = 64)
   have n2 : (x == 127) = false := by simpa using (fun e => h4 (.inr (.inl e)) : ¬ x = 127)
   have n3 : (x == 126) = false := by simpa using (fun e => h4 (.inr (.inr (.inl e))) : ¬ x = 126)
   have n4 : (x == 123) = false := by simpa using (fun e => h4 (.inr (.inr (.inr e))) : ¬ x = 123)
   clear h4
   by_cases h2 : x = 125 ∨ x = 124
   ·rw [if_pos h2]
    rcases h2 with rfl | rfl
    ·go_enter Try.func57, Try.ntmps57
     go_wp2_with fail
     go_quiet (fail)
     go_wp2_with fail
     go_quiet (fail)
     go_wp2_with fail
     refine (fail_any (rs_drew H.out _) 11).mono ?_
     rintro e w7 ⟨rfl, h1, h2⟩
     have HX := Lib.hid (And.intro h1 (Sep.trans ((Sep.refl w).drewN _) h2))
     clear h1 h2 a0 a1 a2 c1
     go_wp2_with fail
     refine (type_tail hf HX.out.1 (bys_one HB.out (HX.out.2))).mono ?_
     rintro e w8 ⟨n, s2, he2, rfl, h1, h2⟩
     have H8 := Lib.hid (And.intro h1 (Sep.trans (HX.out.2) h2))
     clear h1 h2 HX
     have HE2 := Lib.hid he2
     clear he2
     by_cases hn : n < 0
     ·have HNN := Lib.hid hn
      have d9 : decide (n < 0) = true := decide_eq_true hn
      go_wp2_with fail
      refine (fail_any H8.out.1 10).mono ?_
      rintro e w9 ⟨rfl, h1, h2⟩
      have H9 := Lib.hid (And.intro h1 (Sep.trans H8.out.2 h2))
      clear h1 h2
      go_wp2
      go_ret
      rw [HE2.out, if_pos (by have := HNN.out; omega)]
      exact ⟨rfl, H9.out⟩
     ·have HNN := Lib.hid hn
      have d9 : decide (n < 0) = false := decide_eq_false hn
      go_wp2
      go_ret
      rw [HE2.out, if_neg (by have := HNN.out; omega)]
      exact ⟨rfl, H8.out⟩
    ·go_enter Try.func57, Try.ntmps57
     go_wp2_with fail
     go_quiet (fail)
     go_wp2_with fail
     go_quiet (fail)
     go_wp2_with fail
     refine (fail_any (rs_drew H.out _) 11).mono ?_
     rintro e w7 ⟨rfl, h1, h2⟩
     have HX := Lib.hid (And.intro h1 (Sep.trans ((Sep.refl w).drewN _) h2))
     clear h1 h2 a0 a1 a2 c1
     go_wp2_with fail
     refine (type_tail hf HX.out.1 (bys_one HB.out (HX.out.2))).mono ?_
     rintro e w8 ⟨n, s2, he2, rfl, h1, h2⟩
     have H8 := Lib.hid (And.intro h1 (Sep.trans (HX.out.2) h2))
     clear h1 h2 HX
     have HE2 := Lib.hid he2
     clear he2
     by_cases hn : n < 0
     ·have HNN := Lib.hid hn
      have d9 : decide (n < 0) = true := decide_eq_true hn
      go_wp2_with fail
      refine (fail_any H8.out.1 10).mono ?_
      rintro e w9 ⟨rfl, h1, h2⟩
      have H9 := Lib.hid (And.intro h1 (Sep.trans H8.out.2 h2))
      clear h1 h2
      go_wp2
      go_ret
      rw [HE2.out, if_pos (by have := HNN.out; omega)]
      exact ⟨rfl, H9.out⟩
     ·have HNN := Lib.hid hn
      have d9 : decide (n < 0) = false := decide_eq_false hn
      go_wp2
      go_ret
      rw [HE2.out, if_neg (by have := HNN.out; omega)]
      exact ⟨rfl, H8.out⟩
   ·rw [if_neg h2]
    have n5 : (x == 125) = false := by simpa using (fun e => h2 (.inl e) : ¬ x = 125)
    have n6 : (x == 124) = false := by simpa using (fun e => h2 (.inr e) : ¬ x = 124)
    clear h2
    go_enter Try.func57, Try.ntmps57
    go_wp2_with fail
    go_quiet (fail)
    go_wp2_with fail
    go_quiet (fail)
    go_wp2_with fail
    refine (type_tail hf (rs_drew H.out _) (bys_one HB.out ((Sep.refl w).drewN _))).mono ?_
    rintro e w8 ⟨n, s2, he2, rfl, h1, h2⟩
    have H8 := Lib.hid (And.intro h1 (Sep.trans ((Sep.refl w).drewN _) h2))
    clear h1 h2
    have HE2 := Lib.hid he2
    clear he2
    by_cases hn : n < 0
    ·have HNN := Lib.hid hn
     have d9 : decide (n < 0) = true := decide_eq_true hn
     go_wp2_with fail
     refine (fail_any H8.out.1 10).mono ?_
     rintro e w9 ⟨rfl, h1, h2⟩
     have H9 := Lib.hid (And.intro h1 (Sep.trans H8.out.2 h2))
     clear h1 h2
     go_wp2
     go_ret
     rw [HE2.out, if_pos (by have := HNN.out; omega)]
     exact ⟨rfl, H9.out⟩
    ·have HNN := Lib.hid hn
     have d9 : decide (n < 0) = false := decide_eq_false hn
     go_wp2
     go_ret
     rw [HE2.out, if_neg (by have := HNN.out; omega)]
     exact ⟨rfl, H8.out⟩
 ·have e0 : blkS f len s = typS f len s := if_neg hl
  rw [e0]
  obtain ⟨x, c, rfl⟩ := u8s_slice hb.1
  clear h hb hok e0
  by_cases he : s.e = 0
  ·rw [he] at a2
   have d0 : decide (s.a < (len : Int)) = false := decide_eq_false (fun e => hl ⟨he, e⟩)
   clear hl he
   go_enter Try.func57, Try.ntmps57
   go_wp2_with fail
   go_quiet (fail)
   go_wp2_with fail
   refine (type_tail hf (rs_drew H.out _) (bys_one HB.out ((Sep.refl w).drewN _))).mono ?_
   rintro e w8 ⟨n, s2, he2, rfl, h1, h2⟩
   have H8 := Lib.hid (And.intro h1 (Sep.trans ((Sep.refl w).drewN _) h2))
   clear h1 h2
   have HE2 := Lib.hid he2
   clear he2
   by_cases hn : n < 0
   ·have HNN := Lib.hid hn
    have d9 : decide (n < 0) = true := decide_eq_true hn
    go_wp2_with fail
    refine (fail_any H8.out.1 10).mono ?_
    rintro e w9 ⟨rfl, h1, h2⟩
    have H9 := Lib.hid (And.intro h1 (Sep.trans H8.out.2 h2))
    clear h1 h2
    go_wp2
    go_ret
    rw [HE2.out, if_pos (by have := HNN.out; omega)]
    exact ⟨rfl, H9.out⟩
   ·have HNN := Lib.hid hn
    have d9 : decide (n < 0) = false := decide_eq_false hn
    go_wp2
    go_ret
    rw [HE2.out, if_neg (by have := HNN.out; omega)]
    exact ⟨rfl, H8.out⟩
  ·have n0 : (s.e == 0) = false := by simpa using he
   clear hl he
   go_enter Try.func57, Try.ntmps57
   go_wp2_with fail
   go_quiet (fail)
   go_wp2_with fail
   refine (type_tail hf (rs_drew H.out _) (bys_one HB.out ((Sep.refl w).drewN _))).mono ?_
   rintro e w8 ⟨n, s2, he2, rfl, h1, h2⟩
   have H8 := Lib.hid (And.intro h1 (Sep.trans ((Sep.refl w).drewN _) h2))
   clear h1 h2
   have HE2 := Lib.hid he2
   clear he2
   by_cases hn : n < 0
   ·have HNN := Lib.hid hn
    have d9 : decide (n < 0) = true := decide_eq_true hn
    go_wp2_with fail
    refine (fail_any H8.out.1 10).mono ?_
    rintro e w9 ⟨rfl, h1, h2⟩
    have H9 := Lib.hid (And.intro h1 (Sep.trans H8.out.2 h2))
    clear h1 h2
    go_wp2
    go_ret
    rw [HE2.out, if_pos (by have := HNN.out; omega)]
    exact ⟨rfl, H9.out⟩
   ·have HNN := Lib.hid hn
    have d9 : decide (n < 0) = false := decide_eq_false hn
    go_wp2
    go_ret
    rw [HE2.out, if_neg (by have := HNN.out; omega)]
    exact ⟨rfl, H8.out⟩
end Ex
end Go.Proofs.Ytebkabidojipoaa
/- ExH -/
namespace Go.Proofs.Ytebkabidojipoaa
open Go.RowKit VecM LebM
namespace Ex
def hvB (l : List Int) : Nat → Int := fun i => l.getD i 0
theorem hvB_byt {f : Nat → Int} (hf : By f) {len : Nat} : ∀ (k : Nat) (s : St), Byt (hvB (octsS f len k s).1)
 | 0, s => fun m => by simp [octsS, hvB]
 | k + 1, s => fun m => by
  have h1 := hvB_byt hf (len := len) k s m
  have h2 := octS_bd hf (len := len) (octsS f len k s).2
  have hl := octsS_len (f := f) (len := len) k s
  unfold hvB at h1 ⊢
  simp only [octsS]
  by_cases hm : m < k
  ·rw [List.getD_eq_getElem?_getD, List.getElem?_append_left (by omega), ← List.getD_eq_getElem?_getD]; exact h1
  ·rw [List.getD_eq_getElem?_getD, List.getElem?_append_right (by omega), hl]
   by_cases hm2 : m = k
   ·subst hm2; simp; omega
   ·rw [List.getElem?_eq_none (by simp; omega)]; simp
theorem upd_hv {l : List Int} {k : Nat} (hl : l.length = k) (y : Int) : upd (hvB l) k y = hvB (l ++ [y]) := by
 funext m
 unfold upd hvB
 by_cases hm : m = k
 ·subst hm; rw [if_pos rfl, List.getD_eq_getElem?_getD, List.getElem?_append_right (by omega), hl, Nat.sub_self]; rfl
 ·rw [if_neg hm]
  by_cases h2 : m < k
  ·rw [List.getD_eq_getElem?_getD, List.getD_eq_getElem?_getD, List.getElem?_append_left (by omega)]
  ·rw [List.getD_eq_getElem?_getD, List.getD_eq_getElem?_getD, List.getElem?_eq_none (by omega), List.getElem?_eq_none (by simp; omega)]
theorem bs_upd (c : Nat → Int) (j : Nat) (y : Int) (h : j < 16) : (bs c).setIfInBounds j (.int .u8 y) = bs (upd c j y) := by
 match j with
 | 0 | 1 | 2 | 3 | 4 | 5 | 6 | 7 | 8 | 9 | 10 | 11 | 12 | 13 | 14 | 15 => rfl
 | k + 16 => omega
theorem _root_.Go.Proofs.Ytebkabidojipoaa.Sep.setRow {ex : Nat → Prop} (w : World) {g : Nat} (hg : ex g) (c : Array Value) : Sep ex w (w.setRow g c) :=
 ⟨rfl, rfl, rfl, by simp [World.setRow], fun i _ hx => by
  simp only [World.setRow, Array.getElem?_modify]
  rw [if_neg (fun e : g = i => hx (by rw [← e]; exact hg))]⟩
theorem sep_new {ex ex' : Nat → Prop} {a w w' : World} (h : Sep ex a w) (h' : Sep ex' w w') (hn : ∀ b, b < a.heap.size → ¬ ex' b) : Sep ex a w' :=
 ⟨h'.os.trans h.os, h'.tape.trans h.tape, h'.output.trans h.output, Nat.le_trans h.size h'.size, fun b hb hx => (h'.block b (Nat.lt_of_lt_of_le hb h.size) (hn b hb)).trans (h.block b hb hx)⟩
def halS (f : Nat → Int) (len : Nat) (s : St) : (Int × Int) × St := ((getI (hvB (octsS f len 16 s).1) 64 0, getI (hvB (octsS f len 16 s).1) 64 1), (octsS f len 16 s).2)
set_option maxHeartbeats 1000000 in
theorem halves_any {w : World} {g : Nat} {sv ov : Value} {s : St} {cl : Bool} {len : Nat} {f : Nat → Int} (hf : By f) (h : RS w g sv s ov cl) (hb : Bys w g sv len f) (hok : Ok len s) :
  Calls Try.prog 59 #[.pointer (some ⟨g, 0, none⟩)] w fun e w' => e = .returned (.agg #[.int .u64 (halS f len s).1.1, .int .u64 (halS f len s).1.2]) ∧ RDN w g sv (halS f len s).2 ov cl w' := by
 have HB := Lib.hid (fun w1 (hs : Sep (One g) w w1) => bys_one hb hs)
 have H := Lib.hid h
 have HOK := Lib.hid hok
 have HLT := Lib.hid (rs_lt h)
 clear h hb hok
 go_enter Try.func59, Try.ntmps59
 go_wp2_with fail
 have hs0 : Sep (One g) w ((w.alloc (.cells #[.int .u64 0, .int .u64 0] 88)).alloc (.cells (bs fun _ => 0) 85)) := Sep.of_gr (((Gr.refl w).alloc _ _).alloc _ _)
 have HS0 := Lib.hid hs0
 have HV0 := Lib.hid (heap_alloc2_new w (.cells #[.int .u64 0, .int .u64 0] 88) (.cells (bs fun _ => 0) 85))
 have HR0 := Lib.hid (heap_alloc2_old w (.cells #[.int .u64 0, .int .u64 0] 88) (.cells (bs fun _ => 0) 85))
 clear hs0
 go_loopw [5] (fun i wr => ∃ k : Nat, k ≤ 16 ∧ i = .int .i64 k ∧ Sep (One g) w wr ∧ RS wr g sv (octsS f len k s).2 ov cl ∧ wr.heap[w.heap.size]? = some (.cells #[.int .u64 0, .int .u64 0] 88 (0, 0)) ∧ wr.heap[w.heap.size + 1]? = some (.cells (bs (hvB (octsS f len k s).1)) 85 (0, 0))) (fun i _ => 16 - (intOf i).toNat)
 case atStart => exact ⟨0, by omega, rfl, HS0.out, rs_sep (ex := fun _ => False) H.out (Sep.of_gr (((Gr.refl w).alloc _ _).alloc _ _)) id, HR0.out, HV0.out⟩
 case round =>
  obtain ⟨k, hk, rfl, hs, hr, hz, hv⟩ := hrel
  have HS := Lib.hid hs
  have HR := Lib.hid hr
  have HZ := Lib.hid hz
  have HV := Lib.hid hv
  have HLL := Lib.hid (octsS_len (f := f) (len := len) k s)
  have HOC := Lib.hid (octet_any hr (HB.out wr hs) (octsS_ok k HOK.out))
  clear hs hr hz hv
  by_cases hlt : k < 16
  ·have d0 : decide ((k : Int) < 16) = true := decide_eq_true (by omega)
   have HE1 := Lib.hid (show (octsS f len (k + 1) s) = ((octsS f len k s).1 ++ [(octS f len (octsS f len k s).2).1], (octS f len (octsS f len k s).2).2) from rfl)
   generalize octsS f len k s = r at *
   obtain ⟨L, s1⟩ := r
   generalize octS f len s1 = r2 at *
   obtain ⟨y, s2⟩ := r2
   have HOC2 := Lib.hid (show Calls Try.prog 54 #[.pointer (some ⟨g, 0, none⟩)] wr fun e w' => e = .returned (.int .u8 y) ∧ RDN wr g sv s2 ov cl w' from HOC.out)
   clear HOC
   go_wp2_with fail
   refine HOC2.out.mono ?_
   rintro e w1 ⟨rfl, h1, h2⟩
   have hv1 := h2.at_ (show ¬ One g (w.heap.size + 1) from fun e => by have e' : w.heap.size + 1 = g := e; have := HLT.out; omega) HV.out
   have HZ1 := Lib.hid (h2.at_ (show ¬ One g w.heap.size from fun e => by have e' : w.heap.size = g := e; have := HLT.out; omega) HZ.out)
   have HV1 := Lib.hid hv1
   have HR1 := Lib.hid h1
   have HS1 := Lib.hid (Sep.trans HS.out h2)
   have cb := (cell_of_row _ _ k _ _ _ hv1).trans (bs_get _ k hlt)
   have fz := froz hv1 k
   clear h1 h2 hv1
   go_wp2
   have hset : Sep (fun b => b = w.heap.size + 1) w1 (w1.setCell ⟨w.heap.size + 1, k, none⟩ (.int .u8 y)) := Sep.setCell (ex := fun b => b = w.heap.size + 1) w1 (p := ⟨w.heap.size + 1, k, none⟩) rfl _
   refine ⟨⟨k + 1, by omega, by go_num, sep_new HS1.out hset (fun b hb e => by have e' : b = w.heap.size + 1 := e; omega), ?_, ?_, ?_⟩, by simp [intOf]; omega⟩
   ·rw [HE1.out]
    exact rs_sep HR1.out hset (by show ¬ g = w.heap.size + 1; have := HLT.out; omega)
   ·exact hset.at_ (by show ¬ w.heap.size = w.heap.size + 1; omega) HZ1.out
   ·rw [HE1.out]
    have := setCell_cell HV1.out k (.int .u8 y)
    rw [bs_upd _ _ _ hlt, upd_hv HLL.out] at this
    exact this
  ·obtain rfl : k = 16 := by omega
   have HBY := Lib.hid (hvB_byt hf (len := len) 16 s)
   have e0 : halS f len s = ((getI (hvB (octsS f len 16 s).1) 64 0, getI (hvB (octsS f len 16 s).1) 64 1), (octsS f len 16 s).2) := rfl
   have HE0 := Lib.hid e0
   clear HOC e0 hlt
   generalize octsS f len 16 s = r at *
   obtain ⟨L, s1⟩ := r
   go_wp2_with (refine wpList_load_row rfl 85 _ rfl (w.heap.size + 1) rfl 85 (bs (hvB L)) (0, 0) _ HV.out Try.underlying85 rfl infoV ?_)
   refine (split_any (hvB L) HBY.out wr).mono ?_
   rintro e w1 ⟨rfl, hg⟩
   have HG := Lib.hid hg
   have HZ1 := Lib.hid (gr_block hg HZ.out)
   clear hg
   go_wp2_with (refine wpList_store_row rfl 88 _ _ rfl w.heap.size #[.int .u64 (getI (hvB L) 64 0), .int .u64 (getI (hvB L) 64 1)] rfl rfl 88 #[.int .u64 0, .int .u64 0] HZ1.out infoH rfl (by kernel_rfl) ?_)
   have HS9 := Lib.hid (setRow_block (c := #[.int .u64 (getI (hvB L) 64 0), .int .u64 (getI (hvB L) 64 1)]) HZ1.out)
   exact bodyPost_ret (v := .agg #[.int .u64 (getI (hvB L) 64 0), .int .u64 (getI (hvB L) 64 1)]) (results_cell_row Try.results59 _ _ w.heap.size 88 _ (0, 0) _ rfl HS9.out Try.underlying88 rfl infoH) rfl
    ⟨by rw [HE0.out], by
     rw [HE0.out]
     have h8 := Sep.trans HS.out (Sep.of_gr HG.out)
     have h9 : Sep (fun b => b = w.heap.size) w1 (w1.setRow w.heap.size #[.int .u64 (getI (hvB L) 64 0), .int .u64 (getI (hvB L) 64 1)]) := Sep.setRow (ex := fun b => b = w.heap.size) w1 rfl _
     exact ⟨rs_sep (rs_sep (ex := fun _ => False) HR.out (Sep.of_gr HG.out) id) h9 (by show ¬ g = w.heap.size; have := HLT.out; omega), sep_new h8 h9 (fun b hb e => by have e' : b = w.heap.size := e; omega)⟩⟩
end Ex
end Go.Proofs.Ytebkabidojipoaa
/- ExF -/
namespace Go.Proofs.Ytebkabidojipoaa
open Go.RowKit VecM LebM
namespace Ex
def inV (d : In) (Lv : Value) : Array Value := #[.int .i64 d.op, .int .i64 d.a, .int .i64 d.b, .int .u64 d.lo, .int .u64 d.hi, Lv]
def fldS (f : Nat → Int) (len : Nat) (form op : Int) (s : St) : In × St :=
 if form = 2 then (⟨op, (blkS f len s).1, 0, 0, 0, []⟩, (blkS f len s).2)
 else if form = 3 ∨ form = 5 then (⟨op, (numS f len s).1, 0, 0, 0, []⟩, (numS f len s).2)
 else if form = 4 then (⟨op, (numS f len (tabS f len (numS f len s).1.toNat [] (numS f len s).2).2).1, 0, 0, 0, (tabS f len (numS f len s).1.toNat [] (numS f len s).2).1⟩, (numS f len (tabS f len (numS f len s).1.toNat [] (numS f len s).2).2).2)
 else if form = 6 ∨ form = 7 then (⟨op, (numS f len s).1, (numS f len (numS f len s).2).1, 0, 0, []⟩, (numS f len (numS f len s).2).2)
 else if form = 8 then (⟨op, (numS f len s).1, (numS f len (numS f len s).2).1, (octS f len (numS f len (numS f len s).2).2).1, 0, []⟩, (octS f len (numS f len (numS f len s).2).2).2)
 else if form = 9 then (⟨op, 0, 0, (sgnS f len 32 s).1 % 4294967296, 0, []⟩, (sgnS f len 32 s).2)
 else if form = 10 then (⟨op, 0, 0, (sgnS f len 64 s).1 % 18446744073709551616, 0, []⟩, (sgnS f len 64 s).2)
 else if form = 11 ∨ form = 12 then (⟨op, 0, 0, (halS f len s).1.1, (halS f len s).1.2, []⟩, (halS f len s).2)
 else if form = 13 then (⟨op, (octS f len s).1, 0, 0, 0, []⟩, (octS f len s).2)
 else if form = 14 then (nul op, if (octS f len s).1 ≠ 0 then failS (octS f len s).2 10 else (octS f len s).2)
 else (nul op, s)
def IB (w : World) (i : Nat) (cs : Array Value) : Prop := w.heap[i]? = some (.cells cs 38 (0, 0))
def Pr (g i : Nat) : Nat → Prop := fun k => k = g ∨ k = i
def FLD (w : World) (g i : Nat) (sv ov : Value) (cl : Bool) (r : In × St) (e : Ending) (w' : World) : Prop :=
 ∃ Lv, e = .returned (.tuple #[]) ∧ RS w' g sv r.2 ov cl ∧ IB w' i (inV r.1 Lv) ∧ w'.ownsRow w.heap.size 3 1 Lv r.1.l.length (ivs r.1.l) ∧ Sep (Pr g i) w w'
def By2 (w : World) (g i : Nat) (sv : Value) (len : Nat) (f : Nat → Int) : Prop := Bys w g sv len f ∧ ∀ k, sv.ownBlock = some k → k ≠ i
theorem by2_sep {w w' : World} {g i : Nat} {sv : Value} {len : Nat} {f : Nat → Int} (h : By2 w g i sv len f) (hs : Sep (Pr g i) w w') : Bys w' g sv len f :=
 ⟨u8s_sep h.1.1 hs (fun k hk e => e.elim (h.1.2 k hk) (h.2 k hk)), h.1.2⟩
theorem one_pr {w w' : World} {g : Nat} (i : Nat) (h : Sep (One g) w w') : Sep (Pr g i) w w' := h.mono fun _ hk => .inl hk
theorem two_pr {w w' : World} (g : Nat) {i : Nat} (h : Sep (One i) w w') : Sep (Pr g i) w w' := h.mono fun _ hk => .inr hk
theorem cells6 {w : World} {g : Nat} {a b c d e x : Value} {t : TypeId} {z : Nat × Nat} (h : w.heap[g]? = some (.cells #[a, b, c, d, e, x] t z)) :
  w.cell? ⟨g, 0, none⟩ = some a ∧ w.cell? ⟨g, 1, none⟩ = some b ∧ w.cell? ⟨g, 2, none⟩ = some c ∧ w.cell? ⟨g, 3, none⟩ = some d ∧ w.cell? ⟨g, 4, none⟩ = some e ∧ w.cell? ⟨g, 5, none⟩ = some x :=
 ⟨(cell_of_row _ _ 0 _ _ _ h).trans rfl, (cell_of_row _ _ 1 _ _ _ h).trans rfl, (cell_of_row _ _ 2 _ _ _ h).trans rfl, (cell_of_row _ _ 3 _ _ _ h).trans rfl, (cell_of_row _ _ 4 _ _ _ h).trans rfl, (cell_of_row _ _ 5 _ _ _ h).trans rfl⟩
set_option maxRecDepth 100000 in
set_option maxHeartbeats 1000000 in
theorem fields_2 {w : World} {g i : Nat} {sv ov : Value} {s : St} {cl : Bool} {len : Nat} {f : Nat → Int} {op : Int} (hf : By f) (h : RS w g sv s ov cl) (hi : IB w i (inV (nul op) (.slice none 0 0))) (hgi : i ≠ g) (hb : By2 w g i sv len f) (hok : Ok len s) :
  Calls Try.prog 30 #[.pointer (some ⟨g, 0, none⟩), .pointer (some ⟨i, 0, none⟩), .int .i64 2] w (FLD w g i sv ov cl (fldS f len 2 op s)) := by
 have HB := Lib.hid hb
 have HG := Lib.hid hgi
 have H0 := Lib.hid h
 have HI0 := Lib.hid (show IB w i #[.int .i64 op, .int .i64 0, .int .i64 0, .int .u64 0, .int .u64 0, .slice none 0 0] from hi)
 have HS0 := Lib.hid (Sep.refl (ex := Pr g i) w)
 have HK0 := Lib.hid hok
 clear h hi hgi hb hok
 go_enter Try.func30, Try.ntmps30
 go_wp2_with fail
 refine (blockType_any hf H0.out (by2_sep HB.out HS0.out) HK0.out).mono ?_
 rintro e w1 ⟨rfl, h1, h2⟩
 have hk := blkS_ok (f := f) HK0.out
 have HK1 := Lib.hid hk
 clear hk
 have hi1 := h2.at_ (show ¬ One g i from HG.out) HI0.out
 have cc := cells6 hi1
 have fz := froz hi1 1
 obtain ⟨c0, c1, c2, c3, c4, c5⟩ := cc
 have hset := Sep.setCell (ex := One i) w1 (p := ⟨i, 1, none⟩) rfl (.int .i64 (blkS f len s).1)
 have HS1 := Lib.hid (Sep.trans HS0.out (Sep.trans (one_pr i h2) (two_pr g hset)))
 have H1 := Lib.hid (rs_sep h1 hset (show ¬ One i g from fun e => HG.out e.symm))
 have HI1 := Lib.hid (show IB (w1.setCell ⟨i, 1, none⟩ (.int .i64 (blkS f len s).1)) i #[.int .i64 op, .int .i64 (blkS f len s).1, .int .i64 0, .int .u64 0, .int .u64 0, .slice none 0 0] from setCell_cell hi1 1 (.int .i64 (blkS f len s).1))
 clear h1 h2 hi1 hset
 go_wp2
 go_end0
 have e0 : fldS f len 2 op s = (⟨op, (blkS f len s).1, 0, 0, 0, []⟩, (blkS f len s).2) := rfl
 rw [e0]
 refine ⟨.slice none 0 0, rfl, H1.out, ?_, World.ownsRow_nil _ _ _ _, HS1.out⟩
 have := HI1.out
 exact this
set_option maxRecDepth 100000 in
set_option maxHeartbeats 1000000 in
theorem fields_3 {w : World} {g i : Nat} {sv ov : Value} {s : St} {cl : Bool} {len : Nat} {f : Nat → Int} {op : Int} (hf : By f) (h : RS w g sv s ov cl) (hi : IB w i (inV (nul op) (.slice none 0 0))) (hgi : i ≠ g) (hb : By2 w g i sv len f) (hok : Ok len s) :
  Calls Try.prog 30 #[.pointer (some ⟨g, 0, none⟩), .pointer (some ⟨i, 0, none⟩), .int .i64 3] w (FLD w g i sv ov cl (fldS f len 3 op s)) := by
 have HB := Lib.hid hb
 have HG := Lib.hid hgi
 have H0 := Lib.hid h
 have HI0 := Lib.hid (show IB w i #[.int .i64 op, .int .i64 0, .int .i64 0, .int .u64 0, .int .u64 0, .slice none 0 0] from hi)
 have HS0 := Lib.hid (Sep.refl (ex := Pr g i) w)
 have HK0 := Lib.hid hok
 clear h hi hgi hb hok
 go_enter Try.func30, Try.ntmps30
 go_wp2_with fail
 refine (number_any hf H0.out (by2_sep HB.out HS0.out)).mono ?_
 rintro e w1 ⟨rfl, h1, h2⟩
 have hk := numS_ok (f := f) HK0.out
 have hbd := numS_bd hf (len := len) s
 have HK1 := Lib.hid hk
 clear hk
 have T1 : IntKind.i64.wrap (numS f len s).1 = (numS f len s).1 := by rw [IntKind.wrap_i64]; omega
 have hi1 := h2.at_ (show ¬ One g i from HG.out) HI0.out
 have cc := cells6 hi1
 have fz := froz hi1 1
 obtain ⟨c0, c1, c2, c3, c4, c5⟩ := cc
 have hset := Sep.setCell (ex := One i) w1 (p := ⟨i, 1, none⟩) rfl (.int .i64 (numS f len s).1)
 have HS1 := Lib.hid (Sep.trans HS0.out (Sep.trans (one_pr i h2) (two_pr g hset)))
 have H1 := Lib.hid (rs_sep h1 hset (show ¬ One i g from fun e => HG.out e.symm))
 have HI1 := Lib.hid (show IB (w1.setCell ⟨i, 1, none⟩ (.int .i64 (numS f len s).1)) i #[.int .i64 op, .int .i64 (numS f len s).1, .int .i64 0, .int .u64 0, .int .u64 0, .slice none 0 0] from setCell_cell hi1 1 (.int .i64 (numS f len s).1))
 clear h1 h2 hi1 hset hbd
 go_wp2
 go_end0
 have e0 : fldS f len 3 op s = (⟨op, (numS f len s).1, 0, 0, 0, []⟩, (numS f len s).2) := rfl
 rw [e0]
 refine ⟨.slice none 0 0, rfl, H1.out, ?_, World.ownsRow_nil _ _ _ _, HS1.out⟩
 have := HI1.out
 exact this
set_option maxRecDepth 100000 in
set_option maxHeartbeats 1000000 in
theorem fields_5 {w : World} {g i : Nat} {sv ov : Value} {s : St} {cl : Bool} {len : Nat} {f : Nat → Int} {op : Int} (hf : By f) (h : RS w g sv s ov cl) (hi : IB w i (inV (nul op) (.slice none 0 0))) (hgi : i ≠ g) (hb : By2 w g i sv len f) (hok : Ok len s) :
  Calls Try.prog 30 #[.pointer (some ⟨g, 0, none⟩), .pointer (some ⟨i, 0, none⟩), .int .i64 5] w (FLD w g i sv ov cl (fldS f len 5 op s)) := by
 have HB := Lib.hid hb
 have HG := Lib.hid hgi
 have H0 := Lib.hid h
 have HI0 := Lib.hid (show IB w i #[.int .i64 op, .int .i64 0, .int .i64 0, .int .u64 0, .int .u64 0, .slice none 0 0] from hi)
 have HS0 := Lib.hid (Sep.refl (ex := Pr g i) w)
 have HK0 := Lib.hid hok
 clear h hi hgi hb hok
 go_enter Try.func30, Try.ntmps30
 go_wp2_with fail
 refine (number_any hf H0.out (by2_sep HB.out HS0.out)).mono ?_
 rintro e w1 ⟨rfl, h1, h2⟩
 have hk := numS_ok (f := f) HK0.out
 have hbd := numS_bd hf (len := len) s
 have HK1 := Lib.hid hk
 clear hk
 have T1 : IntKind.i64.wrap (numS f len s).1 = (numS f len s).1 := by rw [IntKind.wrap_i64]; omega
 have hi1 := h2.at_ (show ¬ One g i from HG.out) HI0.out
 have cc := cells6 hi1
 have fz := froz hi1 1
 obtain ⟨c0, c1, c2, c3, c4, c5⟩ := cc
 have hset := Sep.setCell (ex := One i) w1 (p := ⟨i, 1, none⟩) rfl (.int .i64 (numS f len s).1)
 have HS1 := Lib.hid (Sep.trans HS0.out (Sep.trans (one_pr i h2) (two_pr g hset)))
 have H1 := Lib.hid (rs_sep h1 hset (show ¬ One i g from fun e => HG.out e.symm))
 have HI1 := Lib.hid (show IB (w1.setCell ⟨i, 1, none⟩ (.int .i64 (numS f len s).1)) i #[.int .i64 op, .int .i64 (numS f len s).1, .int .i64 0, .int .u64 0, .int .u64 0, .slice none 0 0] from setCell_cell hi1 1 (.int .i64 (numS f len s).1))
 clear h1 h2 hi1 hset hbd
 go_wp2
 go_end0
 have e0 : fldS f len 5 op s = (⟨op, (numS f len s).1, 0, 0, 0, []⟩, (numS f len s).2) := rfl
 rw [e0]
 refine ⟨.slice none 0 0, rfl, H1.out, ?_, World.ownsRow_nil _ _ _ _, HS1.out⟩
 have := HI1.out
 exact this
set_option maxRecDepth 100000 in
set_option maxHeartbeats 1000000 in
theorem fields_6 {w : World} {g i : Nat} {sv ov : Value} {s : St} {cl : Bool} {len : Nat} {f : Nat → Int} {op : Int} (hf : By f) (h : RS w g sv s ov cl) (hi : IB w i (inV (nul op) (.slice none 0 0))) (hgi : i ≠ g) (hb : By2 w g i sv len f) (hok : Ok len s) :
  Calls Try.prog 30 #[.pointer (some ⟨g, 0, none⟩), .pointer (some ⟨i, 0, none⟩), .int .i64 6] w (FLD w g i sv ov cl (fldS f len 6 op s)) := by
 have HB := Lib.hid hb
 have HG := Lib.hid hgi
 have H0 := Lib.hid h
 have HI0 := Lib.hid (show IB w i #[.int .i64 op, .int .i64 0, .int .i64 0, .int .u64 0, .int .u64 0, .slice none 0 0] from hi)
 have HS0 := Lib.hid (Sep.refl (ex := Pr g i) w)
 have HK0 := Lib.hid hok
 clear h hi hgi hb hok
 go_enter Try.func30, Try.ntmps30
 go_wp2_with fail
 refine (number_any hf H0.out (by2_sep HB.out HS0.out)).mono ?_
 rintro e w1 ⟨rfl, h1, h2⟩
 have hk := numS_ok (f := f) HK0.out
 have hbd := numS_bd hf (len := len) s
 have HK1 := Lib.hid hk
 clear hk
 have T1 : IntKind.i64.wrap (numS f len s).1 = (numS f len s).1 := by rw [IntKind.wrap_i64]; omega
 have hi1 := h2.at_ (show ¬ One g i from HG.out) HI0.out
 have cc := cells6 hi1
 have fz := froz hi1 1
 obtain ⟨c0, c1, c2, c3, c4, c5⟩ := cc
 have hset := Sep.setCell (ex := One i) w1 (p := ⟨i, 1, none⟩) rfl (.int .i64 (numS f len s).1)
 have HS1 := Lib.hid (Sep.trans HS0.out (Sep.trans (one_pr i h2) (two_pr g hset)))
 have H1 := Lib.hid (rs_sep h1 hset (show ¬ One i g from fun e => HG.out e.symm))
 have HI1 := Lib.hid (show IB (w1.setCell ⟨i, 1, none⟩ (.int .i64 (numS f len s).1)) i #[.int .i64 op, .int .i64 (numS f len s).1, .int .i64 0, .int .u64 0, .int .u64 0, .slice none 0 0] from setCell_cell hi1 1 (.int .i64 (numS f len s).1))
 clear h1 h2 hi1 hset hbd
 go_wp2_with fail
 generalize w1.setCell ⟨i, 1, none⟩ (.int .i64 (numS f len s).1) = v1 at *
 refine (number_any hf H1.out (by2_sep HB.out HS1.out)).mono ?_
 rintro e w2 ⟨rfl, h1, h2⟩
 have hk := numS_ok (f := f) HK1.out
 have hbd := numS_bd hf (len := len) ((numS f len s).2)
 have HK2 := Lib.hid hk
 clear hk
 have T2 : IntKind.i64.wrap (numS f len ((numS f len s).2)).1 = (numS f len ((numS f len s).2)).1 := by rw [IntKind.wrap_i64]; omega
 have hi1 := h2.at_ (show ¬ One g i from HG.out) HI1.out
 have cc := cells6 hi1
 have fz := froz hi1 2
 obtain ⟨c0, c1, c2, c3, c4, c5⟩ := cc
 have hset := Sep.setCell (ex := One i) w2 (p := ⟨i, 2, none⟩) rfl (.int .i64 (numS f len ((numS f len s).2)).1)
 have HS2 := Lib.hid (Sep.trans HS1.out (Sep.trans (one_pr i h2) (two_pr g hset)))
 have H2 := Lib.hid (rs_sep h1 hset (show ¬ One i g from fun e => HG.out e.symm))
 have HI2 := Lib.hid (show IB (w2.setCell ⟨i, 2, none⟩ (.int .i64 (numS f len ((numS f len s).2)).1)) i #[.int .i64 op, .int .i64 (numS f len s).1, .int .i64 (numS f len ((numS f len s).2)).1, .int .u64 0, .int .u64 0, .slice none 0 0] from setCell_cell hi1 2 (.int .i64 (numS f len ((numS f len s).2)).1))
 clear h1 h2 hi1 hset hbd
 go_wp2
 go_end0
 have e0 : fldS f len 6 op s = (⟨op, (numS f len s).1, (numS f len ((numS f len s).2)).1, 0, 0, []⟩, (numS f len ((numS f len s).2)).2) := rfl
 rw [e0]
 refine ⟨.slice none 0 0, rfl, H2.out, ?_, World.ownsRow_nil _ _ _ _, HS2.out⟩
 have := HI2.out
 exact this
set_option maxRecDepth 100000 in
set_option maxHeartbeats 1000000 in
theorem fields_7 {w : World} {g i : Nat} {sv ov : Value} {s : St} {cl : Bool} {len : Nat} {f : Nat → Int} {op : Int} (hf : By f) (h : RS w g sv s ov cl) (hi : IB w i (inV (nul op) (.slice none 0 0))) (hgi : i ≠ g) (hb : By2 w g i sv len f) (hok : Ok len s) :
  Calls Try.prog 30 #[.pointer (some ⟨g, 0, none⟩), .pointer (some ⟨i, 0, none⟩), .int .i64 7] w (FLD w g i sv ov cl (fldS f len 7 op s)) := by
 have HB := Lib.hid hb
 have HG := Lib.hid hgi
 have H0 := Lib.hid h
 have HI0 := Lib.hid (show IB w i #[.int .i64 op, .int .i64 0, .int .i64 0, .int .u64 0, .int .u64 0, .slice none 0 0] from hi)
 have HS0 := Lib.hid (Sep.refl (ex := Pr g i) w)
 have HK0 := Lib.hid hok
 clear h hi hgi hb hok
 go_enter Try.func30, Try.ntmps30
 go_wp2_with fail
 refine (number_any hf H0.out (by2_sep HB.out HS0.out)).mono ?_
 rintro e w1 ⟨rfl, h1, h2⟩
 have hk := numS_ok (f := f) HK0.out
 have hbd := numS_bd hf (len := len) s
 have HK1 := Lib.hid hk
 clear hk
 have T1 : IntKind.i64.wrap (numS f len s).1 = (numS f len s).1 := by rw [IntKind.wrap_i64]; omega
 have hi1 := h2.at_ (show ¬ One g i from HG.out) HI0.out
 have cc := cells6 hi1
 have fz := froz hi1 1
 obtain ⟨c0, c1, c2, c3, c4, c5⟩ := cc
 have hset := Sep.setCell (ex := One i) w1 (p := ⟨i, 1, none⟩) rfl (.int .i64 (numS f len s).1)
 have HS1 := Lib.hid (Sep.trans HS0.out (Sep.trans (one_pr i h2) (two_pr g hset)))
 have H1 := Lib.hid (rs_sep h1 hset (show ¬ One i g from fun e => HG.out e.symm))
 have HI1 := Lib.hid (show IB (w1.setCell ⟨i, 1, none⟩ (.int .i64 (numS f len s).1)) i #[.int .i64 op, .int .i64 (numS f len s).1, .int .i64 0, .int .u64 0, .int .u64 0, .slice none 0 0] from setCell_cell hi1 1 (.int .i64 (numS f len s).1))
 clear h1 h2 hi1 hset hbd
 go_wp2_with fail
 generalize w1.setCell ⟨i, 1, none⟩ (.int .i64 (numS f len s).1) = v1 at *
 refine (number_any hf H1.out (by2_sep HB.out HS1.out)).mono ?_
 rintro e w2 ⟨rfl, h1, h2⟩
 have hk := numS_ok (f := f) HK1.out
 have hbd := numS_bd hf (len := len) ((numS f len s).2)
 have HK2 := Lib.hid hk
 clear hk
 have T2 : IntKind.i64.wrap (numS f len ((numS f len s).2)).1 = (numS f len ((numS f len s).2)).1 := by rw [IntKind.wrap_i64]; omega
 have hi1 := h2.at_ (show ¬ One g i from HG.out) HI1.out
 have cc := cells6 hi1
 have fz := froz hi1 2
 obtain ⟨c0, c1, c2, c3, c4, c5⟩ := cc
 have hset := Sep.setCell (ex := One i) w2 (p := ⟨i, 2, none⟩) rfl (.int .i64 (numS f len ((numS f len s).2)).1)
 have HS2 := Lib.hid (Sep.trans HS1.out (Sep.trans (one_pr i h2) (two_pr g hset)))
 have H2 := Lib.hid (rs_sep h1 hset (show ¬ One i g from fun e => HG.out e.symm))
 have HI2 := Lib.hid (show IB (w2.setCell ⟨i, 2, none⟩ (.int .i64 (numS f len ((numS f len s).2)).1)) i #[.int .i64 op, .int .i64 (numS f len s).1, .int .i64 (numS f len ((numS f len s).2)).1, .int .u64 0, .int .u64 0, .slice none 0 0] from setCell_cell hi1 2 (.int .i64 (numS f len ((numS f len s).2)).1))
 clear h1 h2 hi1 hset hbd
 go_wp2
 go_end0
 have e0 : fldS f len 7 op s = (⟨op, (numS f len s).1, (numS f len ((numS f len s).2)).1, 0, 0, []⟩, (numS f len ((numS f len s).2)).2) := rfl
 rw [e0]
 refine ⟨.slice none 0 0, rfl, H2.out, ?_, World.ownsRow_nil _ _ _ _, HS2.out⟩
 have := HI2.out
 exact this
set_option maxRecDepth 100000 in
set_option maxHeartbeats 1000000 in
theorem fields_8 {w : World} {g i : Nat} {sv ov : Value} {s : St} {cl : Bool} {len : Nat} {f : Nat → Int} {op : Int} (hf : By f) (h : RS w g sv s ov cl) (hi : IB w i (inV (nul op) (.slice none 0 0))) (hgi : i ≠ g) (hb : By2 w g i sv len f) (hok : Ok len s) :
  Calls Try.prog 30 #[.pointer (some ⟨g, 0, none⟩), .pointer (some ⟨i, 0, none⟩), .int .i64 8] w (FLD w g i sv ov cl (fldS f len 8 op s)) := by
 have HB := Lib.hid hb
 have HG := Lib.hid hgi
 have H0 := Lib.hid h
 have HI0 := Lib.hid (show IB w i #[.int .i64 op, .int .i64 0, .int .i64 0, .int .u64 0, .int .u64 0, .slice none 0 0] from hi)
 have HS0 := Lib.hid (Sep.refl (ex := Pr g i) w)
 have HK0 := Lib.hid hok
 clear h hi hgi hb hok
 go_enter Try.func30, Try.ntmps30
 go_wp2_with fail
 refine (number_any hf H0.out (by2_sep HB.out HS0.out)).mono ?_
 rintro e w1 ⟨rfl, h1, h2⟩
 have hk := numS_ok (f := f) HK0.out
 have hbd := numS_bd hf (len := len) s
 have HK1 := Lib.hid hk
 clear hk
 have T1 : IntKind.i64.wrap (numS f len s).1 = (numS f len s).1 := by rw [IntKind.wrap_i64]; omega
 have hi1 := h2.at_ (show ¬ One g i from HG.out) HI0.out
 have cc := cells6 hi1
 have fz := froz hi1 1
 obtain ⟨c0, c1, c2, c3, c4, c5⟩ := cc
 have hset := Sep.setCell (ex := One i) w1 (p := ⟨i, 1, none⟩) rfl (.int .i64 (numS f len s).1)
 have HS1 := Lib.hid (Sep.trans HS0.out (Sep.trans (one_pr i h2) (two_pr g hset)))
 have H1 := Lib.hid (rs_sep h1 hset (show ¬ One i g from fun e => HG.out e.symm))
 have HI1 := Lib.hid (show IB (w1.setCell ⟨i, 1, none⟩ (.int .i64 (numS f len s).1)) i #[.int .i64 op, .int .i64 (numS f len s).1, .int .i64 0, .int .u64 0, .int .u64 0, .slice none 0 0] from setCell_cell hi1 1 (.int .i64 (numS f len s).1))
 clear h1 h2 hi1 hset hbd
 go_wp2_with fail
 generalize w1.setCell ⟨i, 1, none⟩ (.int .i64 (numS f len s).1) = v1 at *
 refine (number_any hf H1.out (by2_sep HB.out HS1.out)).mono ?_
 rintro e w2 ⟨rfl, h1, h2⟩
 have hk := numS_ok (f := f) HK1.out
 have hbd := numS_bd hf (len := len) ((numS f len s).2)
 have HK2 := Lib.hid hk
 clear hk
 have T2 : IntKind.i64.wrap (numS f len ((numS f len s).2)).1 = (numS f len ((numS f len s).2)).1 := by rw [IntKind.wrap_i64]; omega
 have hi1 := h2.at_ (show ¬ One g i from HG.out) HI1.out
 have cc := cells6 hi1
 have fz := froz hi1 2
 obtain ⟨c0, c1, c2, c3, c4, c5⟩ := cc
 have hset := Sep.setCell (ex := One i) w2 (p := ⟨i, 2, none⟩) rfl (.int .i64 (numS f len ((numS f len s).2)).1)
 have HS2 := Lib.hid (Sep.trans HS1.out (Sep.trans (one_pr i h2) (two_pr g hset)))
 have H2 := Lib.hid (rs_sep h1 hset (show ¬ One i g from fun e => HG.out e.symm))
 have HI2 := Lib.hid (show IB (w2.setCell ⟨i, 2, none⟩ (.int .i64 (numS f len ((numS f len s).2)).1)) i #[.int .i64 op, .int .i64 (numS f len s).1, .int .i64 (numS f len ((numS f len s).2)).1, .int .u64 0, .int .u64 0, .slice none 0 0] from setCell_cell hi1 2 (.int .i64 (numS f len ((numS f len s).2)).1))
 clear h1 h2 hi1 hset hbd
 go_wp2_with fail
 generalize w2.setCell ⟨i, 2, none⟩ (.int .i64 (numS f len ((numS f len s).2)).1) = v2 at *
 refine (octet_any H2.out (by2_sep HB.out HS2.out) HK2.out).mono ?_
 rintro e w3 ⟨rfl, h1, h2⟩
 have hk := octS_ok (f := f) HK2.out
 have hbd := octS_bd hf (len := len) ((numS f len ((numS f len s).2)).2)
 have HK3 := Lib.hid hk
 clear hk
 have T3 : IntKind.u64.wrap (octS f len ((numS f len ((numS f len s).2)).2)).1 = (octS f len ((numS f len ((numS f len s).2)).2)).1 := by rw [IntKind.wrap_u64]; omega
 have hi1 := h2.at_ (show ¬ One g i from HG.out) HI2.out
 have cc := cells6 hi1
 have fz := froz hi1 3
 obtain ⟨c0, c1, c2, c3, c4, c5⟩ := cc
 have hset := Sep.setCell (ex := One i) w3 (p := ⟨i, 3, none⟩) rfl (.int .u64 (octS f len ((numS f len ((numS f len s).2)).2)).1)
 have HS3 := Lib.hid (Sep.trans HS2.out (Sep.trans (one_pr i h2) (two_pr g hset)))
 have H3 := Lib.hid (rs_sep h1 hset (show ¬ One i g from fun e => HG.out e.symm))
 have HI3 := Lib.hid (show IB (w3.setCell ⟨i, 3, none⟩ (.int .u64 (octS f len ((numS f len ((numS f len s).2)).2)).1)) i #[.int .i64 op, .int .i64 (numS f len s).1, .int .i64 (numS f len ((numS f len s).2)).1, .int .u64 (octS f len ((numS f len ((numS f len s).2)).2)).1, .int .u64 0, .slice none 0 0] from setCell_cell hi1 3 (.int .u64 (octS f len ((numS f len ((numS f len s).2)).2)).1))
 clear h1 h2 hi1 hset hbd
 go_wp2
 go_end0
 have e0 : fldS f len 8 op s = (⟨op, (numS f len s).1, (numS f len ((numS f len s).2)).1, (octS f len ((numS f len ((numS f len s).2)).2)).1, 0, []⟩, (octS f len ((numS f len ((numS f len s).2)).2)).2) := rfl
 rw [e0]
 refine ⟨.slice none 0 0, rfl, H3.out, ?_, World.ownsRow_nil _ _ _ _, HS3.out⟩
 have := HI3.out
 exact this
set_option maxRecDepth 100000 in
set_option maxHeartbeats 1000000 in
theorem fields_9 {w : World} {g i : Nat} {sv ov : Value} {s : St} {cl : Bool} {len : Nat} {f : Nat → Int} {op : Int} (hf : By f) (h : RS w g sv s ov cl) (hi : IB w i (inV (nul op) (.slice none 0 0))) (hgi : i ≠ g) (hb : By2 w g i sv len f) (hok : Ok len s) :
  Calls Try.prog 30 #[.pointer (some ⟨g, 0, none⟩), .pointer (some ⟨i, 0, none⟩), .int .i64 9] w (FLD w g i sv ov cl (fldS f len 9 op s)) := by
 have HB := Lib.hid hb
 have HG := Lib.hid hgi
 have H0 := Lib.hid h
 have HI0 := Lib.hid (show IB w i #[.int .i64 op, .int .i64 0, .int .i64 0, .int .u64 0, .int .u64 0, .slice none 0 0] from hi)
 have HS0 := Lib.hid (Sep.refl (ex := Pr g i) w)
 have HK0 := Lib.hid hok
 clear h hi hgi hb hok
 go_enter Try.func30, Try.ntmps30
 go_wp2_with fail
 refine (signed_any hf 32 H0.out (by2_sep HB.out HS0.out)).mono ?_
 rintro e w1 ⟨rfl, h1, h2⟩
 have hk := sgnS_ok (bits := 32) (f := f) HK0.out
 have HK1 := Lib.hid hk
 clear hk
 have T1 : IntKind.u64.wrap (IntKind.u32.wrap (sgnS f len 32 s).1) = (sgnS f len 32 s).1 % 4294967296 := by simp only [IntKind.wrap_u64, IntKind.wrap_u32]; omega
 have hi1 := h2.at_ (show ¬ One g i from HG.out) HI0.out
 have cc := cells6 hi1
 have fz := froz hi1 3
 obtain ⟨c0, c1, c2, c3, c4, c5⟩ := cc
 have hset := Sep.setCell (ex := One i) w1 (p := ⟨i, 3, none⟩) rfl (.int .u64 ((sgnS f len 32 s).1 % 4294967296))
 have HS1 := Lib.hid (Sep.trans HS0.out (Sep.trans (one_pr i h2) (two_pr g hset)))
 have H1 := Lib.hid (rs_sep h1 hset (show ¬ One i g from fun e => HG.out e.symm))
 have HI1 := Lib.hid (show IB (w1.setCell ⟨i, 3, none⟩ (.int .u64 ((sgnS f len 32 s).1 % 4294967296))) i #[.int .i64 op, .int .i64 0, .int .i64 0, .int .u64 ((sgnS f len 32 s).1 % 4294967296), .int .u64 0, .slice none 0 0] from setCell_cell hi1 3 (.int .u64 ((sgnS f len 32 s).1 % 4294967296)))
 clear h1 h2 hi1 hset
 go_wp2
 go_end0
 have e0 : fldS f len 9 op s = (⟨op, 0, 0, (sgnS f len 32 s).1 % 4294967296, 0, []⟩, (sgnS f len 32 s).2) := rfl
 rw [e0]
 refine ⟨.slice none 0 0, rfl, H1.out, ?_, World.ownsRow_nil _ _ _ _, HS1.out⟩
 have := HI1.out
 exact this
set_option maxRecDepth 100000 in
set_option maxHeartbeats 1000000 in
theorem fields_10 {w : World} {g i : Nat} {sv ov : Value} {s : St} {cl : Bool} {len : Nat} {f : Nat → Int} {op : Int} (hf : By f) (h : RS w g sv s ov cl) (hi : IB w i (inV (nul op) (.slice none 0 0))) (hgi : i ≠ g) (hb : By2 w g i sv len f) (hok : Ok len s) :
  Calls Try.prog 30 #[.pointer (some ⟨g, 0, none⟩), .pointer (some ⟨i, 0, none⟩), .int .i64 10] w (FLD w g i sv ov cl (fldS f len 10 op s)) := by
 have HB := Lib.hid hb
 have HG := Lib.hid hgi
 have H0 := Lib.hid h
 have HI0 := Lib.hid (show IB w i #[.int .i64 op, .int .i64 0, .int .i64 0, .int .u64 0, .int .u64 0, .slice none 0 0] from hi)
 have HS0 := Lib.hid (Sep.refl (ex := Pr g i) w)
 have HK0 := Lib.hid hok
 clear h hi hgi hb hok
 go_enter Try.func30, Try.ntmps30
 go_wp2_with fail
 refine (signed_any hf 64 H0.out (by2_sep HB.out HS0.out)).mono ?_
 rintro e w1 ⟨rfl, h1, h2⟩
 have hk := sgnS_ok (bits := 64) (f := f) HK0.out
 have HK1 := Lib.hid hk
 clear hk
 have T1 : IntKind.u64.wrap (sgnS f len 64 s).1 = (sgnS f len 64 s).1 % 18446744073709551616 := by rw [IntKind.wrap_u64]
 have hi1 := h2.at_ (show ¬ One g i from HG.out) HI0.out
 have cc := cells6 hi1
 have fz := froz hi1 3
 obtain ⟨c0, c1, c2, c3, c4, c5⟩ := cc
 have hset := Sep.setCell (ex := One i) w1 (p := ⟨i, 3, none⟩) rfl (.int .u64 ((sgnS f len 64 s).1 % 18446744073709551616))
 have HS1 := Lib.hid (Sep.trans HS0.out (Sep.trans (one_pr i h2) (two_pr g hset)))
 have H1 := Lib.hid (rs_sep h1 hset (show ¬ One i g from fun e => HG.out e.symm))
 have HI1 := Lib.hid (show IB (w1.setCell ⟨i, 3, none⟩ (.int .u64 ((sgnS f len 64 s).1 % 18446744073709551616))) i #[.int .i64 op, .int .i64 0, .int .i64 0, .int .u64 ((sgnS f len 64 s).1 % 18446744073709551616), .int .u64 0, .slice none 0 0] from setCell_cell hi1 3 (.int .u64 ((sgnS f len 64 s).1 % 18446744073709551616)))
 clear h1 h2 hi1 hset
 go_wp2
 go_end0
 have e0 : fldS f len 10 op s = (⟨op, 0, 0, (sgnS f len 64 s).1 % 18446744073709551616, 0, []⟩, (sgnS f len 64 s).2) := rfl
 rw [e0]
 refine ⟨.slice none 0 0, rfl, H1.out, ?_, World.ownsRow_nil _ _ _ _, HS1.out⟩
 have := HI1.out
 exact this
set_option maxRecDepth 100000 in
set_option maxHeartbeats 1000000 in
theorem fields_13 {w : World} {g i : Nat} {sv ov : Value} {s : St} {cl : Bool} {len : Nat} {f : Nat → Int} {op : Int} (hf : By f) (h : RS w g sv s ov cl) (hi : IB w i (inV (nul op) (.slice none 0 0))) (hgi : i ≠ g) (hb : By2 w g i sv len f) (hok : Ok len s) :
  Calls Try.prog 30 #[.pointer (some ⟨g, 0, none⟩), .pointer (some ⟨i, 0, none⟩), .int .i64 13] w (FLD w g i sv ov cl (fldS f len 13 op s)) := by
 have HB := Lib.hid hb
 have HG := Lib.hid hgi
 have H0 := Lib.hid h
 have HI0 := Lib.hid (show IB w i #[.int .i64 op, .int .i64 0, .int .i64 0, .int .u64 0, .int .u64 0, .slice none 0 0] from hi)
 have HS0 := Lib.hid (Sep.refl (ex := Pr g i) w)
 have HK0 := Lib.hid hok
 clear h hi hgi hb hok
 go_enter Try.func30, Try.ntmps30
 go_wp2_with fail
 refine (octet_any H0.out (by2_sep HB.out HS0.out) HK0.out).mono ?_
 rintro e w1 ⟨rfl, h1, h2⟩
 have hk := octS_ok (f := f) HK0.out
 have hbd := octS_bd hf (len := len) s
 have HK1 := Lib.hid hk
 clear hk
 have T1 : IntKind.i64.wrap (octS f len s).1 = (octS f len s).1 := by rw [IntKind.wrap_i64]; omega
 have hi1 := h2.at_ (show ¬ One g i from HG.out) HI0.out
 have cc := cells6 hi1
 have fz := froz hi1 1
 obtain ⟨c0, c1, c2, c3, c4, c5⟩ := cc
 have hset := Sep.setCell (ex := One i) w1 (p := ⟨i, 1, none⟩) rfl (.int .i64 (octS f len s).1)
 have HS1 := Lib.hid (Sep.trans HS0.out (Sep.trans (one_pr i h2) (two_pr g hset)))
 have H1 := Lib.hid (rs_sep h1 hset (show ¬ One i g from fun e => HG.out e.symm))
 have HI1 := Lib.hid (show IB (w1.setCell ⟨i, 1, none⟩ (.int .i64 (octS f len s).1)) i #[.int .i64 op, .int .i64 (octS f len s).1, .int .i64 0, .int .u64 0, .int .u64 0, .slice none 0 0] from setCell_cell hi1 1 (.int .i64 (octS f len s).1))
 clear h1 h2 hi1 hset hbd
 go_wp2
 go_end0
 have e0 : fldS f len 13 op s = (⟨op, (octS f len s).1, 0, 0, 0, []⟩, (octS f len s).2) := rfl
 rw [e0]
 refine ⟨.slice none 0 0, rfl, H1.out, ?_, World.ownsRow_nil _ _ _ _, HS1.out⟩
 have := HI1.out
 exact this
set_option maxRecDepth 100000 in
set_option maxHeartbeats 1000000 in
theorem fields_11 {w : World} {g i : Nat} {sv ov : Value} {s : St} {cl : Bool} {len : Nat} {f : Nat → Int} {op : Int} (hf : By f) (h : RS w g sv s ov cl) (hi : IB w i (inV (nul op) (.slice none 0 0))) (hgi : i ≠ g) (hb : By2 w g i sv len f) (hok : Ok len s) :
  Calls Try.prog 30 #[.pointer (some ⟨g, 0, none⟩), .pointer (some ⟨i, 0, none⟩), .int .i64 11] w (FLD w g i sv ov cl (fldS f len 11 op s)) := by
 have HI0 := Lib.hid (show IB w i #[.int .i64 op, .int .i64 0, .int .i64 0, .int .u64 0, .int .u64 0, .slice none 0 0] from hi)
 have HG := Lib.hid hgi
 have HLT := Lib.hid ((Array.getElem?_eq_some_iff.1 hi).1)
 have HLG := Lib.hid (rs_lt h)
 have HH := Lib.hid (halves_any hf h hb.1 hok)
 have e0 : fldS f len 11 op s = (⟨op, 0, 0, (halS f len s).1.1, (halS f len s).1.2, []⟩, (halS f len s).2) := rfl
 rw [e0]
 clear h hi hgi hb hok e0
 generalize halS f len s = r at *
 obtain ⟨⟨lo, hi⟩, s1⟩ := r
 go_enter Try.func30, Try.ntmps30
 go_wp2_with fail
 refine HH.out.mono ?_
 rintro e w1 ⟨rfl, h1, h2⟩
 have HR1 := Lib.hid (rs_sep (ex := fun _ => False) h1 (Sep.of_gr ((Gr.refl w1).alloc #[.int .u64 0, .int .u64 0] 88)) id)
 have hi1 := h2.at_ (show ¬ One g i from HG.out) HI0.out
 have hi2 := gr_block ((Gr.refl w1).alloc #[.int .u64 0, .int .u64 0] 88) hi1
 have HS1 := Lib.hid (Sep.trans (one_pr i h2) (Sep.of_gr ((Gr.refl w1).alloc #[.int .u64 0, .int .u64 0] 88)))
 have HI1 := Lib.hid hi2
 have HZ := Lib.hid (heap_alloc_new w1 (.cells #[.int .u64 lo, .int .u64 hi] 88))
 have HW := Lib.hid h2.size
 clear h1 h2 hi1 hi2
 go_wp2_with (first | (refine wpList_store_row rfl 88 _ _ rfl w1.heap.size #[.int .u64 lo, .int .u64 hi] rfl rfl 88 #[.int .u64 0, .int .u64 0] (heap_alloc_new w1 _) infoH rfl (by kernel_rfl) ?_))
 have hz2 := setRow_block (c := #[.int .u64 lo, .int .u64 hi]) (heap_alloc_new w1 (.cells #[.int .u64 0, .int .u64 0] 88))
 have hi3 := (setRow_block_other (w := w1.alloc (.cells #[.int .u64 0, .int .u64 0] 88)) (c := #[.int .u64 lo, .int .u64 hi]) (show i ≠ w1.heap.size by have := HLT.out; have := HW.out; omega)).trans HI1.out
 have HR3 := Lib.hid (rs_sep HR1.out (Sep.setRow (ex := fun b => b = w1.heap.size) (w1.alloc (.cells #[.int .u64 0, .int .u64 0] 88)) rfl #[.int .u64 lo, .int .u64 hi]) (show ¬ g = w1.heap.size by have := HLG.out; have := HW.out; omega))
 have HS3 := Lib.hid (sep_new HS1.out (Sep.setRow (ex := fun b => b = w1.heap.size) (w1.alloc (.cells #[.int .u64 0, .int .u64 0] 88)) rfl #[.int .u64 lo, .int .u64 hi]) (fun b hb e => by have e' : b = w1.heap.size := e; have := HW.out; omega))
 go_wp2_with fail
 generalize (w1.alloc (.cells #[.int .u64 0, .int .u64 0] 88)).setRow w1.heap.size #[.int .u64 lo, .int .u64 hi] = w2 at *
 have z0 := (cell_of_row _ _ 0 _ _ _ hz2).trans rfl
 have z1 := (cell_of_row _ _ 1 _ _ _ hz2).trans rfl
 have y3 := (cells6 hi3).2.2.2.1
 have y4 := (cells6 hi3).2.2.2.2.1
 have f3 := froz hi3 3
 have f4 := froz hi3 4
 have HE := Lib.hid (show RS ((w2.setCell ⟨i, 3, none⟩ (.int .u64 lo)).setCell ⟨i, 4, none⟩ (.int .u64 hi)) g sv s1 ov cl ∧ IB ((w2.setCell ⟨i, 3, none⟩ (.int .u64 lo)).setCell ⟨i, 4, none⟩ (.int .u64 hi)) i (inV ⟨op, 0, 0, lo, hi, []⟩ (.slice none 0 0)) ∧ Sep (Pr g i) w ((w2.setCell ⟨i, 3, none⟩ (.int .u64 lo)).setCell ⟨i, 4, none⟩ (.int .u64 hi)) from by
  have s3 := Sep.setCell (ex := One i) w2 (p := ⟨i, 3, none⟩) rfl (.int .u64 lo)
  have s4 := Sep.setCell (ex := One i) (w2.setCell ⟨i, 3, none⟩ (.int .u64 lo)) (p := ⟨i, 4, none⟩) rfl (.int .u64 hi)
  exact ⟨rs_sep HR3.out (Sep.trans s3 s4) (show ¬ One i g from fun e => HG.out e.symm), setCell_cell (setCell_cell hi3 3 (.int .u64 lo)) 4 (.int .u64 hi), Sep.trans HS3.out (two_pr g (Sep.trans s3 s4))⟩)
 go_region
 all_goals (go_wp2; go_end0; exact ⟨.slice none 0 0, rfl, HE.out.1, HE.out.2.1, World.ownsRow_nil _ _ _ _, HE.out.2.2.drewN 1⟩)
set_option maxRecDepth 100000 in
set_option maxHeartbeats 1000000 in
theorem fields_12 {w : World} {g i : Nat} {sv ov : Value} {s : St} {cl : Bool} {len : Nat} {f : Nat → Int} {op : Int} (hf : By f) (h : RS w g sv s ov cl) (hi : IB w i (inV (nul op) (.slice none 0 0))) (hgi : i ≠ g) (hb : By2 w g i sv len f) (hok : Ok len s) :
  Calls Try.prog 30 #[.pointer (some ⟨g, 0, none⟩), .pointer (some ⟨i, 0, none⟩), .int .i64 12] w (FLD w g i sv ov cl (fldS f len 12 op s)) := by
 have HI0 := Lib.hid (show IB w i #[.int .i64 op, .int .i64 0, .int .i64 0, .int .u64 0, .int .u64 0, .slice none 0 0] from hi)
 have HG := Lib.hid hgi
 have HLT := Lib.hid ((Array.getElem?_eq_some_iff.1 hi).1)
 have HLG := Lib.hid (rs_lt h)
 have HH := Lib.hid (halves_any hf h hb.1 hok)
 have e0 : fldS f len 12 op s = (⟨op, 0, 0, (halS f len s).1.1, (halS f len s).1.2, []⟩, (halS f len s).2) := rfl
 rw [e0]
 clear h hi hgi hb hok e0
 generalize halS f len s = r at *
 obtain ⟨⟨lo, hi⟩, s1⟩ := r
 go_enter Try.func30, Try.ntmps30
 go_wp2_with fail
 refine HH.out.mono ?_
 rintro e w1 ⟨rfl, h1, h2⟩
 have HR1 := Lib.hid (rs_sep (ex := fun _ => False) h1 (Sep.of_gr ((Gr.refl w1).alloc #[.int .u64 0, .int .u64 0] 88)) id)
 have hi1 := h2.at_ (show ¬ One g i from HG.out) HI0.out
 have hi2 := gr_block ((Gr.refl w1).alloc #[.int .u64 0, .int .u64 0] 88) hi1
 have HS1 := Lib.hid (Sep.trans (one_pr i h2) (Sep.of_gr ((Gr.refl w1).alloc #[.int .u64 0, .int .u64 0] 88)))
 have HI1 := Lib.hid hi2
 have HZ := Lib.hid (heap_alloc_new w1 (.cells #[.int .u64 lo, .int .u64 hi] 88))
 have HW := Lib.hid h2.size
 clear h1 h2 hi1 hi2
 go_wp2_with (first | (refine wpList_store_row rfl 88 _ _ rfl w1.heap.size #[.int .u64 lo, .int .u64 hi] rfl rfl 88 #[.int .u64 0, .int .u64 0] (heap_alloc_new w1 _) infoH rfl (by kernel_rfl) ?_))
 have hz2 := setRow_block (c := #[.int .u64 lo, .int .u64 hi]) (heap_alloc_new w1 (.cells #[.int .u64 0, .int .u64 0] 88))
 have hi3 := (setRow_block_other (w := w1.alloc (.cells #[.int .u64 0, .int .u64 0] 88)) (c := #[.int .u64 lo, .int .u64 hi]) (show i ≠ w1.heap.size by have := HLT.out; have := HW.out; omega)).trans HI1.out
 have HR3 := Lib.hid (rs_sep HR1.out (Sep.setRow (ex := fun b => b = w1.heap.size) (w1.alloc (.cells #[.int .u64 0, .int .u64 0] 88)) rfl #[.int .u64 lo, .int .u64 hi]) (show ¬ g = w1.heap.size by have := HLG.out; have := HW.out; omega))
 have HS3 := Lib.hid (sep_new HS1.out (Sep.setRow (ex := fun b => b = w1.heap.size) (w1.alloc (.cells #[.int .u64 0, .int .u64 0] 88)) rfl #[.int .u64 lo, .int .u64 hi]) (fun b hb e => by have e' : b = w1.heap.size := e; have := HW.out; omega))
 go_wp2_with fail
 generalize (w1.alloc (.cells #[.int .u64 0, .int .u64 0] 88)).setRow w1.heap.size #[.int .u64 lo, .int .u64 hi] = w2 at *
 have z0 := (cell_of_row _ _ 0 _ _ _ hz2).trans rfl
 have z1 := (cell_of_row _ _ 1 _ _ _ hz2).trans rfl
 have y3 := (cells6 hi3).2.2.2.1
 have y4 := (cells6 hi3).2.2.2.2.1
 have f3 := froz hi3 3
 have f4 := froz hi3 4
 have HE := Lib.hid (show RS ((w2.setCell ⟨i, 3, none⟩ (.int .u64 lo)).setCell ⟨i, 4, none⟩ (.int .u64 hi)) g sv s1 ov cl ∧ IB ((w2.setCell ⟨i, 3, none⟩ (.int .u64 lo)).setCell ⟨i, 4, none⟩ (.int .u64 hi)) i (inV ⟨op, 0, 0, lo, hi, []⟩ (.slice none 0 0)) ∧ Sep (Pr g i) w ((w2.setCell ⟨i, 3, none⟩ (.int .u64 lo)).setCell ⟨i, 4, none⟩ (.int .u64 hi)) from by
  have s3 := Sep.setCell (ex := One i) w2 (p := ⟨i, 3, none⟩) rfl (.int .u64 lo)
  have s4 := Sep.setCell (ex := One i) (w2.setCell ⟨i, 3, none⟩ (.int .u64 lo)) (p := ⟨i, 4, none⟩) rfl (.int .u64 hi)
  exact ⟨rs_sep HR3.out (Sep.trans s3 s4) (show ¬ One i g from fun e => HG.out e.symm), setCell_cell (setCell_cell hi3 3 (.int .u64 lo)) 4 (.int .u64 hi), Sep.trans HS3.out (two_pr g (Sep.trans s3 s4))⟩)
 go_region
 all_goals (go_wp2; go_end0; exact ⟨.slice none 0 0, rfl, HE.out.1, HE.out.2.1, World.ownsRow_nil _ _ _ _, HE.out.2.2.drewN 1⟩)
theorem fields_14 {w : World} {g i : Nat} {sv ov : Value} {s : St} {cl : Bool} {len : Nat} {f : Nat → Int} {op : Int} (_hf : By f) (h : RS w g sv s ov cl) (hi : IB w i (inV (nul op) (.slice none 0 0))) (hgi : i ≠ g) (hb : By2 w g i sv len f) (hok : Ok len s) :
  Calls Try.prog 30 #[.pointer (some ⟨g, 0, none⟩), .pointer (some ⟨i, 0, none⟩), .int .i64 14] w (FLD w g i sv ov cl (fldS f len 14 op s)) := by
 have HI0 := Lib.hid (show IB w i #[.int .i64 op, .int .i64 0, .int .i64 0, .int .u64 0, .int .u64 0, .slice none 0 0] from hi)
 have HG := Lib.hid hgi
 have HH := Lib.hid (octet_any h hb.1 hok)
 have e0 : fldS f len 14 op s = (nul op, if (octS f len s).1 ≠ 0 then failS (octS f len s).2 10 else (octS f len s).2) := rfl
 rw [e0]
 clear h hi hgi hb hok e0
 generalize octS f len s = r at *
 obtain ⟨c, s1⟩ := r
 by_cases hc : c = 0
 ·rw [if_neg (by simpa using hc)]
  subst hc
  go_enter Try.func30, Try.ntmps30
  go_wp2_with fail
  refine HH.out.mono ?_
  rintro e w1 ⟨rfl, h1, h2⟩
  have H1 := Lib.hid (And.intro h1 h2)
  clear h1 h2
  go_wp2
  go_end0
  exact ⟨.slice none 0 0, rfl, H1.out.1, H1.out.2.at_ (show ¬ One g i from HG.out) HI0.out, World.ownsRow_nil _ _ _ _, one_pr i H1.out.2⟩
 ·rw [if_pos (by simpa using hc)]
  have n1 : (c != 0) = true := by simpa using hc
  clear hc
  go_enter Try.func30, Try.ntmps30
  go_wp2_with fail
  refine HH.out.mono ?_
  rintro e w1 ⟨rfl, h1, h2⟩
  have H1 := Lib.hid (And.intro h1 h2)
  clear h1 h2
  go_wp2_with fail
  refine (fail_any H1.out.1 10).mono ?_
  rintro e w2 ⟨rfl, h1, h2⟩
  have H2 := Lib.hid (And.intro h1 (Sep.trans H1.out.2 h2))
  clear h1 h2
  go_wp2
  go_end0
  exact ⟨.slice none 0 0, rfl, H2.out.1, H2.out.2.at_ (show ¬ One g i from HG.out) HI0.out, World.ownsRow_nil _ _ _ _, one_pr i H2.out.2⟩
theorem fields_no {w : World} {g i : Nat} {sv ov : Value} {s : St} {cl : Bool} {len : Nat} {f : Nat → Int} {op : Int} (_hf : By f) (h : RS w g sv s ov cl) (hi : IB w i (inV (nul op) (.slice none 0 0))) (_hgi : i ≠ g) (_hb : By2 w g i sv len f) (_hok : Ok len s) (form : Int) (hn : form ≤ 1 ∨ 14 < form) :
  Calls Try.prog 30 #[.pointer (some ⟨g, 0, none⟩), .pointer (some ⟨i, 0, none⟩), .int .i64 form] w (FLD w g i sv ov cl (fldS f len form op s)) := by
 have e0 : fldS f len form op s = (nul op, s) := by
  unfold fldS
  rw [if_neg (by omega), if_neg (by omega), if_neg (by omega), if_neg (by omega), if_neg (by omega), if_neg (by omega), if_neg (by omega), if_neg (by omega), if_neg (by omega), if_neg (by omega)]
 rw [e0]
 have HI0 := Lib.hid hi
 have H := Lib.hid h
 have n2 : (form == 2) = false := by simp; omega
 have n3 : (form == 3) = false := by simp; omega
 have n4 : (form == 4) = false := by simp; omega
 have n5 : (form == 5) = false := by simp; omega
 have n6 : (form == 6) = false := by simp; omega
 have n7 : (form == 7) = false := by simp; omega
 have n8 : (form == 8) = false := by simp; omega
 have n9 : (form == 9) = false := by simp; omega
 have n10 : (form == 10) = false := by simp; omega
 have n11 : (form == 11) = false := by simp; omega
 have n12 : (form == 12) = false := by simp; omega
 have n13 : (form == 13) = false := by simp; omega
 have n14 : (form == 14) = false := by simp; omega
 clear h hi _hgi _hb _hok e0 hn _hf
 go_enter Try.func30, Try.ntmps30
 go_wp2
 go_end0
 exact ⟨.slice none 0 0, rfl, H.out, HI0.out, World.ownsRow_nil _ _ _ _, Sep.refl _⟩
end Ex
end Go.Proofs.Ytebkabidojipoaa
/- ExG -/
namespace Go.Proofs.Ytebkabidojipoaa
open Go.RowKit VecM LebM
namespace Ex
theorem add_at {b off j : Nat} : (⟨b, off, none⟩ : Addr).add j = ⟨b, off + j, none⟩ := by unfold Addr.add; split <;> simp_all
set_option maxRecDepth 100000 in
set_option maxHeartbeats 4000000 in
theorem fields_4 {w : World} {g i : Nat} {sv ov : Value} {s : St} {cl : Bool} {len : Nat} {f : Nat → Int} {op : Int} (hf : By f) (h : RS w g sv s ov cl) (hi : IB w i (inV (nul op) (.slice none 0 0))) (hgi : i ≠ g) (hb : By2 w g i sv len f) (hok : Ok len s) (hsv : ∀ k, sv.ownBlock = some k → k < w.heap.size) :
  Calls Try.prog 30 #[.pointer (some ⟨g, 0, none⟩), .pointer (some ⟨i, 0, none⟩), .int .i64 4] w (FLD w g i sv ov cl (fldS f len 4 op s)) := by
 have HB := Lib.hid hb
 have HI00 := Lib.hid (show IB w i #[.int .i64 op, .int .i64 0, .int .i64 0, .int .u64 0, .int .u64 0, .slice none 0 0] from hi)
 have HNgi := Lib.hid (show ¬ g = i from fun e => hgi e.symm)
 have HLi := Lib.hid ((Array.getElem?_eq_some_iff.1 hi).1)
 have HLg := Lib.hid (rs_lt h)
 have HSV := Lib.hid hsv
 have HN0 := Lib.hid (number_any hf h hb.1)
 have hbd := numS_bd hf (len := len) s
 have hok1 := numS_ok (f := f) hok
 have e0 : fldS f len 4 op s = (⟨op, (numS f len (tabS f len (numS f len s).1.toNat [] (numS f len s).2).2).1, 0, 0, 0, (tabS f len (numS f len s).1.toNat [] (numS f len s).2).1⟩, (numS f len (tabS f len (numS f len s).1.toNat [] (numS f len s).2).2).2) := rfl
 rw [e0]
 clear h hi hb hok e0 hsv
 generalize numS f len s = r0 at *
 obtain ⟨n0i, s0⟩ := r0
 obtain ⟨n0, rfl⟩ := Int.eq_ofNat_of_zero_le hbd.1
 dsimp only at hok1 hbd ⊢
 rw [Int.toNat_natCast]
 have HBD := Lib.hid hbd
 have HOK1 := Lib.hid hok1
 have HT := Lib.hid (rfl : tabS f len n0 [] s0 = tabS f len n0 [] s0)
 generalize hTT : tabS f len n0 [] s0 = TT at *
 have HTT := Lib.hid hTT
 clear hbd hok1 hTT HT
 obtain ⟨i0, hi, hz0, hz1, hz2⟩ := info_parts infoZ
 have HI0 := Lib.hid hi
 have HZ00 := Lib.hid hz0
 have HZ10 := Lib.hid hz1
 have HZ20 := Lib.hid hz2
 clear hi hz0 hz1 hz2
 go_enter Try.func30, Try.ntmps30
 go_wp2_with fail
 refine HN0.out.mono ?_
 rintro e w1 ⟨rfl, h1, h2⟩
 have H1 := Lib.hid h1
 have HS1 := Lib.hid h2
 clear h1 h2
 go_wp2_with fail
 go_loopw [6] (fun lv wr => ∃ (m : Nat) (l : List Int) (s1 : St) (Lv : Value), lv = .int .i64 m ∧ l.length + m = n0 ∧ tabS f len m l s1 = TT ∧ Ok len s1 ∧ RS wr g sv s1 ov cl ∧ IB wr i #[.int .i64 op, .int .i64 0, .int .i64 0, .int .u64 0, .int .u64 0, Lv] ∧ wr.ownsRow w.heap.size 3 1 Lv l.length (ivs l) ∧ Sep (Pr g i) w wr) (fun lv _ => (intOf lv).toNat)
 case atStart => exact ⟨n0, [], s0, .slice none 0 0, rfl, by simp, HTT.out, HOK1.out, H1.out, HS1.out.at_ (show ¬ One g i from fun e => HNgi.out e.symm) HI00.out, World.ownsRow_nil _ _ _ _, one_pr i HS1.out⟩
 case round =>
  obtain ⟨m, l, s1, Lv, rfl, hlm, htab, hok1, hr, hi, hown, hs⟩ := hrel
  have HR := Lib.hid hr
  have HI := Lib.hid hi
  have HO := Lib.hid hown
  have HS := Lib.hid hs
  have HOK := Lib.hid hok1
  have HTB := Lib.hid htab
  have HLM := Lib.hid hlm
  obtain ⟨_, _, a2, _, _⟩ := cells5 hr
  by_cases hm : m = 0
  ·subst hm
   have HEND := Lib.hid (show TT = (l, s1) from HTB.out.symm)
   have HN9 := Lib.hid (number_any hf hr (by2_sep HB.out hs))
   have hbd9 := numS_bd hf (len := len) s1
   have T9 : IntKind.i64.wrap (numS f len s1).1 = (numS f len s1).1 := by rw [IntKind.wrap_i64]; omega
   clear hr hi hown hs hok1 htab hlm
   go_wp2_with fail
   refine HN9.out.mono ?_
   rintro e w2 ⟨rfl, h1, h2⟩
   have hi1 := h2.at_ (show ¬ One g i from fun e => HNgi.out e.symm) HI.out
   have cc := (cells6 hi1).2.1
   have fz := froz hi1 1
   have hset := Sep.setCell (ex := One i) w2 (p := ⟨i, 1, none⟩) rfl (.int .i64 (numS f len s1).1)
   have HE := Lib.hid (show RS (w2.setCell ⟨i, 1, none⟩ (.int .i64 (numS f len s1).1)) g sv (numS f len s1).2 ov cl ∧ IB (w2.setCell ⟨i, 1, none⟩ (.int .i64 (numS f len s1).1)) i (inV ⟨op, (numS f len s1).1, 0, 0, 0, l⟩ Lv) ∧ (w2.setCell ⟨i, 1, none⟩ (.int .i64 (numS f len s1).1)).ownsRow w.heap.size 3 1 Lv l.length (ivs l) ∧ Sep (Pr g i) w (w2.setCell ⟨i, 1, none⟩ (.int .i64 (numS f len s1).1)) from
    ⟨rs_sep h1 hset HNgi.out, setCell_cell hi1 1 _, hset.owns (h2.owns HO.out (fun q hq e => by have e' : q = g := e; have := HO.out.lt q hq; have := HLg.out; omega)) (fun q hq e => by have e' : q = i := e; have := HO.out.lt q hq; have := HLi.out; omega), Sep.trans HS.out (Sep.trans (one_pr i h2) (two_pr g hset))⟩)
   clear h1 h2 hi1 hset
   go_wp2
   go_end0
   exact ⟨Lv, rfl, by rw [HEND.out]; exact HE.out.1, by rw [HEND.out]; exact HE.out.2.1, by rw [HEND.out]; exact HE.out.2.2.1, HE.out.2.2.2⟩
  ·obtain ⟨m', rfl⟩ : ∃ m', m = m' + 1 := ⟨m - 1, by omega⟩
   have d0 : decide (((m' + 1 : Nat) : Int) > 0) = true := decide_eq_true (by omega)
   by_cases he : s1.e = 0
   ·rw [he] at a2
    have htab2 : tabS f len m' (l ++ [(numS f len s1).1]) (numS f len s1).2 = TT := by
     rw [← htab, tabS, if_pos he]
    have hok2 := numS_ok (f := f) hok1
    have HNM := Lib.hid (fun wx (hx : RS wx g sv s1 ov cl) (hy : Bys wx g sv len f) => number_any hf hx hy)
    have HBy := Lib.hid (by2_sep HB.out hs)
    generalize numS f len s1 = r at *
    obtain ⟨y, s2⟩ := r
    have HT2 := Lib.hid htab2
    have HOK2 := Lib.hid hok2
    clear HI HO HR
    obtain ⟨xr, cr, rfl⟩ := own_slice hown
    obtain ⟨N, hN⟩ : ∃ N, l.length = N := ⟨_, rfl⟩
    rw [hN] at hown hi hlm
    have HNe := Lib.hid (fun (z : Int) => show (l ++ [z]).length = N + 1 from by rw [List.length_append, hN]; rfl)
    have HR := Lib.hid hr
    have HI := Lib.hid hi
    have HO := Lib.hid hown
    have HLM2 := Lib.hid hlm
    have HNq := Lib.hid (show ∀ q, (Value.slice xr N cr).ownBlock = some q → q ≠ g ∧ q ≠ i from fun q hq => by have := hown.lt q hq; have := HLg.out; have := HLi.out; exact ⟨by omega, by omega⟩)
    have HNs := Lib.hid (show ∀ q, sv.ownBlock = some q → ¬ (Value.slice xr N cr).ownBlock = some q from fun q hq h => by have := hown.lt q h; have := HSV.out q hq; omega)
    have HNi := Lib.hid HB.out.2
    have HNL := Lib.hid (show N ≤ 4294967296 from by have := HBD.out; omega)
    have HGsz := Lib.hid hs.size
    have T3 : IntKind.i64.wrap (m' : Int) = (m' : Int) := by have := HBD.out; rw [IntKind.wrap_i64]; omega
    clear hr hi hown hs hok1 htab hlm htab2 hok2 hN HLM
    go_wp2_with fail
    refine wp_region_facs [0, 0, 2, 6, 14, 0, 32, 96, 254, 511, 1023, 2047] [(fun wx => wx.heap[i]? = some (.cells #[.int .i64 op, .int .i64 0, .int .i64 0, .int .u64 0, .int .u64 0, (.slice xr N cr)] 38 (0, 0)), [11]), (fun wx => RS wx g sv s1 ov cl, [6]), (fun wx => wx.ownsRow w.heap.size 3 1 (.slice xr N cr) N (ivs l), [8]), (fun wx => Bys wx g sv len f, [])] (fun jφ => match jφ with | 7 => [8, 11] | _ => []) (fun kx q => (kx = 6 ∧ q = g) ∨ (kx = 8 ∧ (Value.slice xr N cr).ownBlock = some q) ∨ (kx = 11 ∧ q = i)) (fun jφ v wn => match jφ with | 0 => v = .pointer (some ⟨i, 0, none⟩) | 1 => v = .pointer (some ⟨i, 0, none⟩) | 2 => v = .pointer (some ⟨i, 0, none⟩) | 3 => v = .pointer (some ⟨i, 5, none⟩) | 4 => v = .slice xr N cr | 5 => v = .pointer (some ⟨g, 0, none⟩) | 6 => v = .int .i64 y ∧ RS wn g sv s2 ov cl | 7 => ∃ g2, v = .slice (some ⟨g2, 0, none⟩) 1 1 ∧ wn.heap[g2]? = some (.cells #[.int .i64 y] 3 (0, 0)) | 8 => ∃ x c, v = .slice x (N + 1) c ∧ wn.ownsRow w.heap.size 3 1 (.slice x (N + 1) c) (N + 1) (ivs (l ++ [y])) ∧ (∀ q, (Value.slice x (N + 1) c).ownBlock = some q → q ≠ g ∧ q ≠ i) | 9 => v = .pointer (some ⟨i, 0, none⟩) | 10 => v = .pointer (some ⟨i, 5, none⟩) | 11 => ∃ x c, wn.heap[i]? = some (.cells #[.int .i64 op, .int .i64 0, .int .i64 0, .int .u64 0, .int .u64 0, .slice x (N + 1) c] 38 (0, 0)) ∧ wn.ownsRow w.heap.size 3 1 (.slice x (N + 1) c) (N + 1) (ivs (l ++ [y])) ∧ (∀ q, (Value.slice x (N + 1) c).ownBlock = some q → q ≠ g ∧ q ≠ i) ∧ RS wn g sv s2 ov cl | _ => True) (by kernel_rfl) (by kernel_rfl) (by kernel_rfl) ?_ ?_ ?_ ?_ ?_
    ·exact ⟨HI.out, HR.out, HO.out, HBy.out, trivial⟩
    ·exact ⟨(fun k hk w1 w2 hs h => hs.at_ (fun hx => hx.elim (fun hx => HNgi.out hx.2.symm) (fun hx => hx.elim (fun hx => (HNq.out i hx.2).2 rfl) (fun hx => hk (by simp [hx.1])))) h), (fun k hk w1 w2 hs h => rs_sep h hs (fun hx => hx.elim (fun hx => hk (by simp [hx.1])) (fun hx => hx.elim (fun hx => (HNq.out g hx.2).1 rfl) (fun hx => HNgi.out hx.2)))), (fun k hk w1 w2 hs h => hs.owns h (fun q hq hx => hx.elim (fun hx => (HNq.out q hq).1 hx.2) (fun hx => hx.elim (fun hx => hk (by simp [hx.1])) (fun hx => (HNq.out q hq).2 hx.2)))), (fun k hk w1 w2 hs h => ⟨u8s_sep h.1 hs (fun q hq hx => hx.elim (fun hx => h.2 q hq hx.2) (fun hx => hx.elim (fun hx => HNs.out q hq hx.2) (fun hx => HNi.out q hq hx.2))), h.2⟩), trivial⟩
    ·intro j k hjk hb haf v w1 w2 hS h
     match j, hjk, hb, haf, h with
     | 0, hjk, hb, haf, h => exact h
     | 1, hjk, hb, haf, h => exact h
     | 2, hjk, hb, haf, h => exact h
     | 3, hjk, hb, haf, h => exact h
     | 4, hjk, hb, haf, h => exact h
     | 5, hjk, hb, haf, h => exact h
     | 6, hjk, hb, haf, h => exact ⟨h.1, rs_sep h.2 hS (fun hx => hx.elim (fun hx => hjk hx.1) (fun hx => hx.elim (fun hx => (HNq.out g hx.2).1 rfl) (fun hx => HNgi.out hx.2)))⟩
     | 7, hjk, hb, haf, h => have hg := gr_of_sep (hS.mono fun q hq => hq.elim (fun h => not_aft haf (m := 6) (by kernel_rfl) h.1) (fun h => h.elim (fun h => hb (by simp [h.1])) (fun h => hb (by simp [h.1])))); obtain ⟨g2, h1, h2⟩ := h; exact ⟨g2, h1, gr_block hg h2⟩
     | 8, hjk, hb, haf, h => obtain ⟨x, c, h1, h2, h3⟩ := h; exact ⟨x, c, h1, hS.owns h2 (fun q hq hx => hx.elim (fun hx => (h3 q hq).1 hx.2) (fun hx => hx.elim (fun hx => hjk hx.1) (fun hx => (h3 q hq).2 hx.2))), h3⟩
     | 9, hjk, hb, haf, h => exact h
     | 10, hjk, hb, haf, h => exact h
     | 11, hjk, hb, haf, h => have hg := gr_of_sep (hS.mono fun q hq => hq.elim (fun h => not_aft haf (m := 6) (by kernel_rfl) h.1) (fun hq => hq.elim (fun h => not_aft haf (m := 8) (by kernel_rfl) h.1) (fun h => hjk h.1))); obtain ⟨x, c, h1, h2, h3, h4⟩ := h; exact ⟨x, c, gr_block hg h1, own_gr h2 hg, h3, gr_block hg h4⟩
     | _ + 12, _, _, _, _ => trivial
    ·refine ⟨?_, ?_, ?_, ?_, ?_, ?_, ?_, ?_, ?_, ?_, ?_, ?_, trivial⟩
     ·refine FacStep.of rfl fun ρ wx hu => ?_
      have e1 : ρ (.tmp 1) = (.pointer (some ⟨i, 0, none⟩)) := hu.slot 1 (by kernel_rfl)
      go_simp
      exact ⟨rfl, Sep.refl _⟩
     ·refine FacStep.of rfl fun ρ wx hu => ?_
      have e1 : ρ (.tmp 1) = (.pointer (some ⟨i, 0, none⟩)) := hu.slot 1 (by kernel_rfl)
      go_simp
      exact ⟨rfl, Sep.refl _⟩
     ·refine FacStep.of rfl fun ρ wx hu => ?_
      have e40 : ρ (.tmp 40) = (.pointer (some ⟨i, 0, none⟩)) := hu.dep 1 40 (by kernel_rfl)
      go_simp
      exact ⟨rfl, Sep.refl _⟩
     ·refine FacStep.of rfl fun ρ wx hu => ?_
      have e41 : ρ (.tmp 41) = (.pointer (some ⟨i, 0, none⟩)) := hu.dep 2 41 (by kernel_rfl)
      go_simp
      exact ⟨rfl, Sep.refl _⟩
     ·refine FacStep.of rfl fun ρ wx hu => ?_
      have e42 : ρ (.tmp 42) = (.pointer (some ⟨i, 5, none⟩)) := hu.dep 3 42 (by kernel_rfl)
      have hc := (cells6 (hu.fac 0 _ _ rfl (by kernel_rfl))).2.2.2.2.2
      go_simp
      exact ⟨rfl, Sep.refl _⟩
     ·refine FacStep.of rfl fun ρ wx hu => ?_
      have e0 : ρ (.tmp 0) = (.pointer (some ⟨g, 0, none⟩)) := hu.slot 0 (by kernel_rfl)
      go_simp
      exact ⟨rfl, Sep.refl _⟩
     ·refine FacStep.of rfl fun ρ wx hu => ?_
      have e44 : ρ (.tmp 44) = (.pointer (some ⟨g, 0, none⟩)) := hu.dep 5 44 (by kernel_rfl)
      have ef55 : ρ (.func 55) = .func (.func 55) #[] #[] := hu.fn 55
      have hr1 := hu.fac 1 _ _ rfl (by kernel_rfl)
      have hb1 := hu.fac 3 _ _ rfl (by kernel_rfl)
      go_simp
      exact (HNM.out wx hr1 hb1).mono fun e w5 ⟨h1, h2, h3⟩ => ⟨_, h1, ⟨rfl, h2⟩, h3.mono (fun q hq => by first | exact hq | exact .inl ⟨rfl, hq⟩)⟩
     ·refine FacStep.of rfl fun ρ wx hu => ?_
      have e45 := (hu.dep 6 45 (by kernel_rfl)).1
      go_simp
      exact ⟨⟨_, rfl, heap_alloc_new _ _⟩, Sep.of_gr ((Gr.refl _).allocO _)⟩
     ·refine FacStep.of rfl fun ρ wx hu => ?_
      have e43 : ρ (.tmp 43) = (.slice xr N cr) := hu.dep 4 43 (by kernel_rfl)
      obtain ⟨g2, e46, hb46⟩ : ∃ g2, ρ (.tmp 46) = .slice (some ⟨g2, 0, none⟩) 1 1 ∧ wx.heap[g2]? = some (.cells #[.int .i64 y] 3 (0, 0)) := hu.dep 7 46 (by kernel_rfl)
      have ho := hu.fac 2 _ _ rfl (by kernel_rfl)
      have hh := hu.fac 0 _ _ rfl (by kernel_rfl)
      have hr1 : RS wx g sv s2 ov cl := (hu.dep 6 45 (by kernel_rfl)).2
      have hsz := hu.sep.size
      refine fac_append _ _ 36 rfl w.heap.size 3 i0 (.int .i64 0) 1 8 Try.underlying36 HI0.out HZ00.out HZ10.out HZ20.out rfl (by decide) (.slice xr N cr) N (ivs l) e43 ho _ 1 (ivs [y]) e46 ?_ rfl (fun u hu => by simp [ivs] at hu; subst hu; rfl) (by unfold maxLen; have := HNL.out; omega) (by have := HNL.out; omega) (by have := HGsz.out; have h6 : wr.heap.size ≤ wx.heap.size := hsz; omega) (fun q hq => .inr (.inl ⟨rfl, hq⟩)) ?_
      ·exact .inr ⟨_, _, rfl, fun j u hu => by
        rw [add_at, Nat.zero_add, cell_of_row _ _ j _ _ _ hb46]
        exact (Array.getElem?_toList ..).symm.trans hu⟩
      ·intro v2 w2 h2 h3 h4
       obtain ⟨x2, c2, rfl⟩ := own_slice h2
       exact ⟨x2, c2, rfl, by rw [ivs_app]; exact h2, fun q hq => by
        rcases h4 q hq with h4 | h4
        ·exact HNq.out q h4
        ·have h5 := (Array.getElem?_eq_some_iff.1 hh).1
         have h6 := rs_lt hr1
         exact ⟨by omega, by omega⟩⟩
     ·refine FacStep.of rfl fun ρ wx hu => ?_
      have e39 : ρ (.tmp 39) = (.pointer (some ⟨i, 0, none⟩)) := hu.dep 0 39 (by kernel_rfl)
      go_simp
      exact ⟨rfl, Sep.refl _⟩
     ·refine FacStep.of rfl fun ρ wx hu => ?_
      have e48 : ρ (.tmp 48) = (.pointer (some ⟨i, 0, none⟩)) := hu.dep 9 48 (by kernel_rfl)
      go_simp
      exact ⟨rfl, Sep.refl _⟩
     ·refine FacStep.of rfl fun ρ wx hu => ?_
      have e49 : ρ (.tmp 49) = (.pointer (some ⟨i, 5, none⟩)) := hu.dep 10 49 (by kernel_rfl)
      obtain ⟨x2, c2, e47, h30, h30b⟩ : ∃ x c, ρ (.tmp 47) = .slice x (N + 1) c ∧ wx.ownsRow w.heap.size 3 1 (.slice x (N + 1) c) (N + 1) (ivs (l ++ [y])) ∧ (∀ q, (Value.slice x (N + 1) c).ownBlock = some q → q ≠ g ∧ q ≠ i) := hu.dep 8 47 (by kernel_rfl)
      have hh := hu.fac 0 _ _ rfl (by kernel_rfl)
      have hr1 : RS wx g sv s2 ov cl := (hu.dep 6 45 (by kernel_rfl)).2
      have hc := (cells6 hh).2.2.2.2.2
      have fz := froz hh 5
      have HH := Lib.hid hh
      have H30 := Lib.hid h30
      have H30b := Lib.hid h30b
      have HR1 := Lib.hid hr1
      clear hh h30 h30b hr1
      go_simp
      exact ⟨⟨x2, c2, setCell_cell HH.out 5 _, (Sep.setCell (ex := fun q => q = i) wx (p := ⟨i, 5, none⟩) rfl _).owns H30.out (fun q hq => (H30b.out q hq).2), H30b.out, rs_sep HR1.out (Sep.setCell (ex := fun q => q = i) wx (p := ⟨i, 5, none⟩) rfl _) (fun e : g = i => HNgi.out e)⟩, (Sep.setCell (ex := fun q => q = i) wx (p := ⟨i, 5, none⟩) rfl _).mono (fun q hq => by first | exact hq | exact .inr (.inr ⟨rfl, hq⟩) | simpa using hq)⟩
    ·intro V wN hS hV hC
     obtain ⟨x2, c2, b1, b2, b3, b4⟩ := hV 11 _ rfl rfl
     have HSx := Lib.hid (show Sep (fun q => q = g ∨ q = i ∨ (Value.slice xr N cr).ownBlock = some q) wr wN from Sep.trans (Sep.of_gr (Gr.drew (Gr.refl wr))) (hS.mono fun q ⟨_, hq⟩ => hq.elim (fun h => .inl h.2) (fun hq => hq.elim (fun h => .inr (.inr h.2)) (fun h => .inr (.inl h.2)))))
     have HK := Lib.hid (show RS wN g sv s2 ov cl ∧ IB wN i #[.int .i64 op, .int .i64 0, .int .i64 0, .int .u64 0, .int .u64 0, .slice x2 (N + 1) c2] ∧ wN.ownsRow w.heap.size 3 1 (.slice x2 (N + 1) c2) (l ++ [y]).length (ivs (l ++ [y])) ∧ Sep (Pr g i) w wN from
      ⟨b4, b1, by rw [HNe.out]; exact b2, ⟨HSx.out.os.trans HS.out.os, HSx.out.tape.trans HS.out.tape, HSx.out.output.trans HS.out.output, Nat.le_trans HS.out.size HSx.out.size, fun b hb hx => (HSx.out.block b (Nat.lt_of_lt_of_le hb HS.out.size) (fun e => e.elim (fun e => hx (.inl e)) (fun e => e.elim (fun e => hx (.inr e)) (fun e => by have := HO.out.lt b e; omega)))).trans (HS.out.block b hb hx)⟩⟩)
     clear b1 b2 b3 b4 hV hC hS
     simp only [putAll, Act.put, Option.map_some, Option.getD_some, List.setIfInBounds_toArray, List.set_cons_succ, List.set_cons_zero]
     go_wp2
     exact ⟨⟨m', l ++ [y], s2, .slice x2 (N + 1) c2, by go_num, by rw [HNe.out]; have := HLM2.out; omega, HT2.out, HOK2.out, HK.out⟩, by simp [intOf]⟩
   ·have n2 : (s1.e == 0) = false := by simpa using he
    have HEND := Lib.hid (show TT = (l, s1) from by rw [← htab, tabS, if_neg he])
    have HN9 := Lib.hid (number_any hf hr (by2_sep HB.out hs))
    have hbd9 := numS_bd hf (len := len) s1
    have T9 : IntKind.i64.wrap (numS f len s1).1 = (numS f len s1).1 := by rw [IntKind.wrap_i64]; omega
    clear hr hi hown hs hok1 htab hlm
    go_wp2_with fail
    refine HN9.out.mono ?_
    rintro e w2 ⟨rfl, h1, h2⟩
    have hi1 := h2.at_ (show ¬ One g i from fun e => HNgi.out e.symm) HI.out
    have cc := (cells6 hi1).2.1
    have fz := froz hi1 1
    have hset := Sep.setCell (ex := One i) w2 (p := ⟨i, 1, none⟩) rfl (.int .i64 (numS f len s1).1)
    have HE := Lib.hid (show RS (w2.setCell ⟨i, 1, none⟩ (.int .i64 (numS f len s1).1)) g sv (numS f len s1).2 ov cl ∧ IB (w2.setCell ⟨i, 1, none⟩ (.int .i64 (numS f len s1).1)) i (inV ⟨op, (numS f len s1).1, 0, 0, 0, l⟩ Lv) ∧ (w2.setCell ⟨i, 1, none⟩ (.int .i64 (numS f len s1).1)).ownsRow w.heap.size 3 1 Lv l.length (ivs l) ∧ Sep (Pr g i) w (w2.setCell ⟨i, 1, none⟩ (.int .i64 (numS f len s1).1)) from
     ⟨rs_sep h1 hset HNgi.out, setCell_cell hi1 1 _, hset.owns (h2.owns HO.out (fun q hq e => by have e' : q = g := e; have := HO.out.lt q hq; have := HLg.out; omega)) (fun q hq e => by have e' : q = i := e; have := HO.out.lt q hq; have := HLi.out; omega), Sep.trans HS.out (Sep.trans (one_pr i h2) (two_pr g hset))⟩)
    clear h1 h2 hi1 hset
    go_wp2
    go_end0
    exact ⟨Lv, rfl, by rw [HEND.out]; exact HE.out.1, by rw [HEND.out]; exact HE.out.2.1, by rw [HEND.out]; exact HE.out.2.2.1, HE.out.2.2.2⟩
theorem fields_any {w : World} {g i : Nat} {sv ov : Value} {s : St} {cl : Bool} {len : Nat} {f : Nat → Int} {op : Int} (hf : By f) (h : RS w g sv s ov cl) (hi : IB w i (inV (nul op) (.slice none 0 0))) (hgi : i ≠ g) (hb : By2 w g i sv len f) (hok : Ok len s) (hsv : ∀ k, sv.ownBlock = some k → k < w.heap.size) (form : Int) :
  Calls Try.prog 30 #[.pointer (some ⟨g, 0, none⟩), .pointer (some ⟨i, 0, none⟩), .int .i64 form] w (FLD w g i sv ov cl (fldS f len form op s)) := by
 by_cases hn : form ≤ 1 ∨ 14 < form
 ·exact fields_no hf h hi hgi hb hok form hn
 ·have hc : form = 2 ∨ form = 3 ∨ form = 4 ∨ form = 5 ∨ form = 6 ∨ form = 7 ∨ form = 8 ∨ form = 9 ∨ form = 10 ∨ form = 11 ∨ form = 12 ∨ form = 13 ∨ form = 14 := by omega
  rcases hc with rfl | rfl | rfl | rfl | rfl | rfl | rfl | rfl | rfl | rfl | rfl | rfl | rfl
  ·exact fields_2 hf h hi hgi hb hok
  ·exact fields_3 hf h hi hgi hb hok
  ·exact fields_4 hf h hi hgi hb hok hsv
  ·exact fields_5 hf h hi hgi hb hok
  ·exact fields_6 hf h hi hgi hb hok
  ·exact fields_7 hf h hi hgi hb hok
  ·exact fields_8 hf h hi hgi hb hok
  ·exact fields_9 hf h hi hgi hb hok
  ·exact fields_10 hf h hi hgi hb hok
  ·exact fields_11 hf h hi hgi hb hok
  ·exact fields_12 hf h hi hgi hb hok
  ·exact fields_13 hf h hi hgi hb hok
  ·exact fields_14 hf h hi hgi hb hok
end Ex
end Go.Proofs.Ytebkabidojipoaa
