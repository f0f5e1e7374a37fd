/-
  LebPadded: a form made longer by bytes that say nothing is read as the same number; with one byte more than the bits allow it is refused.
-/
import Derived.Test.YthdklnkaeddogaaLebPadM
namespace Go.Proofs.Ythdklnkaeddogaa
open Go.RowKit LebM
theorem u8s_set (l : List Int) (j : Nat) (x : Int) : (u8s l).set j (.int .u8 x) = u8s (l.set j x) := by unfold u8s; rw [List.map_set]
set_option maxRecDepth 100000 in
set_option maxHeartbeats 4000000 in
theorem padded_walk (n : Int) (hn : 0 ≤ n ∧ n < 4294967296) (more : Int) (hm : 0 ≤ more ∧ more < 256) (w : World) :
    Calls Try.prog 8 #[.int .u32 n, .int .u8 more] w fun e w' => e = .returned (.bool true) ∧ Gr w w' := by
  have hn64 : 0 ≤ n ∧ n < 18446744073709551616 := by omega
  have HPut := Lib.hid (put1 n hn64)
  have HF := Lib.hid (lebU_good 9 n hn.1 (formU_lt hn64.2))
  have HV := Lib.hid (lebU_val 9 n hn.1 (formU_lt hn64.2))
  have hF0 : 0 < (formU n).length := lebU_pos 9 n
  have hF1 : (formU n).length ≤ 10 := lebU_len 9 n
  obtain ⟨t, hmt, ht⟩ : ∃ t : Nat, more.tmod 7 = t ∧ t ≤ 6 := by
    have h1 : more.tmod 7 = more % 7 := Int.tmod_eq_emod_of_nonneg hm.1
    obtain ⟨t, ht⟩ := Int.eq_ofNat_of_zero_le (show 0 ≤ more % 7 by omega)
    exact ⟨t, h1.trans ht, by omega⟩
  have hw8 : IntKind.u8.wrap (t : Int) = t := by rw [IntKind.wrap_u8]; omega
  have hwn : IntKind.u64.wrap n = n := by rw [IntKind.wrap_u64]; omega
  have HSl := Lib.hid (u8s_len1 (formU n))
  have HNN : Hid (formU n ≠ []) := fun h => by rw [h] at hF0; simp at hF0
  have HFv := Lib.hid (show Good (formU n) from HF.out)
  have HVv := Lib.hid (show valL (formU n) = n from HV.out)
  clear HF HV
  generalize formU n = F at *
  obtain ⟨i0, hi, hz0, hz1, hz2⟩ := info_parts info8
  have HI := Lib.hid hi
  have HZ0 := Lib.hid hz0
  have HZ1 := Lib.hid hz1
  have HZ2 := Lib.hid hz2
  generalize hLL : F.length = L at *
  have HLL := Lib.hid hLL
  have HN := Lib.hid hn
  clear hi hz0 hz1 hz2 hLL hn hn64 hm
  have hz : ((L : Int) == 0) = false := beq_eq_false_iff_ne.2 (by omega)
  go_enter Try.func8, Try.ntmps8
  go_upto_region 3 with (go_at_call 10; refine (awake_any _).mono ?_; rintro e w1 ⟨rfl, hg1⟩; have HG1 := Lib.hid hg1; clear hg1)
  go_wp2_with (first | (go_at_call 15; refine (HPut.out _).mono ?_; rintro e w3 ⟨s3, rfl, hg3, ho3⟩; have HG3 := Lib.hid hg3; have HO3 := Lib.hid ho3; clear hg3 ho3) | (at_builtin; refine wpList_append_src rfl _ _ 22 rfl w1.heap.size 5 i0 (.int .u8 0) 1 1 Try.underlying22 HI.out HZ0.out HZ1.out HZ2.out rfl (by decide) (.slice none 0 0) 0 [] rfl (World.ownsRow_nil _ _ _ _) s3 L (u8s F) rfl (src_of_owns HO3.out) HSl.out (u8s_one _) (by unfold maxLen; omega) (by omega) (by have := HG3.out.size; omega) ?_))
  intro v4 w4 hown4 hgb4
  have HG4 := Lib.hid (gr_trans HG1.out (HG3.out.grown hgb4 (fun q hq => by cases hq)))
  have HW14 := Lib.hid (HG3.out.grown hgb4 (fun q hq => by cases hq)).size
  have HO4 := Lib.hid (show w4.ownsRow w1.heap.size 5 1 v4 L (u8s F) by simpa using hown4)
  obtain ⟨g4, c4, rfl, -, -, -⟩ := own_some HO4.out hF0
  clear hown4 hgb4
  go_wp2_with fail
  go_loopw [5, 7] (fun b i wr => ∃ (k : Nat) (T : List Int) (a : Option Addr) (c : Nat), k ≤ t ∧ i = .int .i64 k ∧ b = .slice a T.length c ∧ Good T ∧ valL T = n ∧ T.length = L + k ∧ Gr w wr ∧ w1.heap.size ≤ wr.heap.size ∧ wr.ownsRow w1.heap.size 5 1 b T.length (u8s T)) (fun _ i _ => t - (intOf i).toNat)
  case atStart => exact ⟨0, F, _, _, by omega, rfl, by rw [HLL.out], HFv.out, HVv.out, by rw [HLL.out]; rfl, HG4.out, HW14.out, by rw [HLL.out]; exact HO4.out⟩
  case round =>
    obtain ⟨k, T, a, c, hk, rfl, rfl, hgood, hval, hTl, hg, hsz, hown⟩ := hrel
    have HG := Lib.hid hg
    have HSz := Lib.hid hsz
    have HOw := Lib.hid hown
    have HGd := Lib.hid hgood
    have HVl := Lib.hid hval
    have HT0 := Lib.hid (show T ≠ [] from fun h => by rw [h] at hTl; simp at hTl; omega)
    have HBy := Lib.hid (good_byte T hgood)
    have HLast := Lib.hid (good_last T hgood)
    clear hg hsz hgood hval hown
    by_cases hlt : k < t
    · obtain ⟨g, _, he, _, hgb, _⟩ := own_some HOw.out (by omega)
      obtain rfl := (Value.slice.inj he).1
      have HGb := Lib.hid hgb
      clear he hgb
      generalize hM : T.length = M at *
      have HM := Lib.hid hM
      have hM1 : 0 < M := by omega
      have hM16 : M ≤ 16 := by omega
      have HTl := Lib.hid hTl
      clear hTl
      obtain ⟨p, hp⟩ : ∃ p : Nat, M = p + 1 := ⟨M - 1, by omega⟩
      have hpi : (M : Int) - 1 = (p : Int) := by omega
      have hpl : p < M := by omega
      have HP := Lib.hid hp
      clear hM hp
      generalize hcc : T.getD (M - 1) 0 = cc at *
      have hcell : wr.cell? ⟨g, p, none⟩ = some (.int .u8 cc) := by
        rw [HOw.out.cellAt p (by omega)]
        unfold u8s
        rw [List.getElem?_map, List.getElem?_eq_getElem (by have := HM.out; omega)]
        rw [← hcc, List.getD_eq_getElem?_getD, show M - 1 = p by have := HP.out; omega, List.getElem?_eq_getElem (by have := HM.out; omega)]
        rfl
      have hfz := HOw.out.frozenAt p
      have hor := or128 cc HLast.out
      have HCc := Lib.hid hcc
      clear hcc
      have hst := HOw.out.stored p (.int .u8 (cc + 128))
      rw [u8s_set] at hst
      have HOs := Lib.hid hst.1
      have HSep := Lib.hid (show Gr w (wr.setCell ⟨g, p, none⟩ (.int .u8 (cc + 128))) from HG.out.setCell (p := ⟨g, p, none⟩) (by have := HGb.out; have := HG4.out.size; have := HW14.out; have := HG1.out.size; show w.heap.size ≤ g; omega) _)
      have HSs := Lib.hid (show w1.heap.size ≤ (wr.setCell ⟨g, p, none⟩ (.int .u8 (cc + 128))).heap.size by have := HSz.out; simpa [World.setCell] using this)
      clear hst
      go_upto_region 12 with (fail)
      generalize wr.setCell ⟨g, p, none⟩ (.int .u8 (cc + 128)) = W1 at *
      go_wp2_with (at_builtin; refine wpList_append_src rfl _ _ 22 rfl w1.heap.size 5 i0 (.int .u8 0) 1 1 Try.underlying22 HI.out HZ0.out HZ1.out HZ2.out rfl (by decide) (.slice (some ⟨g, 0, none⟩) M c) M (u8s (T.set p (cc + 128))) rfl (HOs.out.alloc _) (.slice (some ⟨W1.heap.size, 0, none⟩) 1 1) 1 [.int .u8 0] rfl (src_lit W1 #[.int .u8 0] _ 1 1) rfl (fun u hu => by simp at hu; subst hu; rfl) (by unfold maxLen; omega) (by omega) (by have := HSs.out; simp; omega) ?_)
      intro v' w3 hown3 hgb3
      have HG3' := Lib.hid ((HSep.out.allocO _).grown hgb3 (fun q hq => by simp only [Value.ownBlock, Option.some.injEq] at hq; subst hq; have := HGb.out; have := HG1.out.size; omega))
      have HPd := Lib.hid (show u8s (pad T) = u8s (T.set p (cc + 128)) ++ [.int .u8 0] by rw [pad_eq T HT0.out, u8s_app, HM.out, HCc.out, show M - 1 = p by have := HP.out; omega]; rfl)
      have HPl := Lib.hid (show (pad T).length = M + 1 by rw [pad_len T HT0.out, HM.out])
      have HO3' := Lib.hid (show w3.ownsRow w1.heap.size 5 1 v' (pad T).length (u8s (pad T)) by rw [HPl.out, HPd.out]; exact hown3)
      have HSz3 := Lib.hid (show w1.heap.size ≤ w3.heap.size by have := hgb3.size; have := HSs.out; simp at *; omega)
      obtain ⟨a', c', rfl⟩ := own_slice HO3'.out
      clear hown3 hgb3
      go_wp2
      exact ⟨⟨k + 1, pad T, _, _, by omega, by go_num, rfl, pad_good T HGd.out, by rw [pad_val]; exact HVl.out, by rw [HPl.out]; have := HTl.out; omega, HG3'.out, HSz3.out, HO3'.out⟩, by simp [intOf]; omega⟩
    · obtain rfl : k = t := by omega
      have hv32 : valL T < 4294967296 := by rw [HVl.out]; exact HN.out.2
      have HU := Lib.hid (u8s_of_owns HOw.out)
      by_cases h5 : 5 < T.length
      · have HR := Lib.hid (show ∀ sv w, U8s w sv T.length (lst T) → Calls Try.prog 11 #[sv, .int .i64 0, .int .i64 32] w fun e w' => e = .returned (.tuple #[.int .u64 0, .int .i64 0, .int .i64 6]) ∧ w = w' from fun sv w h => by
          have := u_any sv _ _ (lst_by HBy.out) 0 32 w h
          rw [read_long HGd.out h5] at this
          exact this)
        have h5i : (5 : Int) < (T.length : Int) := by omega
        clear h5 hv32 hTl
        go_wp2_with (go_at_call 11; refine (HR.out _ _ HU.out).mono ?_; rintro e w5 ⟨rfl, rfl⟩)
        go_ret
        exact ⟨rfl, HG.out⟩
      · obtain ⟨wd, hrd⟩ := read_good HGd.out hv32 (by omega)
        have HR := Lib.hid (show ∀ sv w, U8s w sv T.length (lst T) → Calls Try.prog 11 #[sv, .int .i64 0, .int .i64 32] w fun e w' => e = .returned (.tuple #[.int .u64 n, .int .i64 T.length, .int .i64 0]) ∧ w = w' from fun sv w h => by
          have := u_any sv _ _ (lst_by HBy.out) 0 32 w h
          rw [hrd, HVl.out] at this
          exact this)
        have h5i : ¬ (5 : Int) < (T.length : Int) := by omega
        have hle : (L : Int) ≤ (T.length : Int) := by omega
        clear h5 hv32 hrd hTl
        go_wp2_with (go_at_call 11; refine (HR.out _ _ HU.out).mono ?_; rintro e w5 ⟨rfl, rfl⟩)
        go_ret
        exact ⟨rfl, HG.out⟩
end Go.Proofs.Ythdklnkaeddogaa
