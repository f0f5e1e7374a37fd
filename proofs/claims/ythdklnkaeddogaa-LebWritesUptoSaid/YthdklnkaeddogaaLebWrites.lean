/-
  LebWrites: the forms of every list of numbers are the document's.
-/
import Derived.Test.YthdklnkaeddogaaLebRForm
namespace Go.Proofs.Ythdklnkaeddogaa
open Go.RowKit LebM
theorem rform_U (V : Int) (hV : 0 ≤ V ∧ V < 18446744073709551616) (w : World) :
    Calls Try.prog 24 #[.int .u64 V, .bool false] w fun e w' => ∃ sv, e = .returned sv ∧ Gr w w' ∧ w'.ownsRow w.heap.size 5 1 sv (formU V).length (u8s (formU V)) :=
  (rform_u V V hV (Int.emod_eq_of_lt hV.1 hV.2).symm w).mono fun e w' ⟨sv, h1, h2, s, hs, hfit, hno, ho⟩ => ⟨sv, h1, h2, by
    obtain ⟨t, rfl⟩ : ∃ t, s = t + 1 := ⟨s - 1, by omega⟩
    have e : fm V (t + 1) = formU V := fm_lebU t 9 V (by omega) hV.1 hfit (by
      by_cases h0 : t = 0
      · exact .inl h0
      · right
        have := hno t (by omega) (by omega)
        omega)
    rw [e] at ho; exact ho⟩
theorem rform_S (V : Int) (hV : -9223372036854775808 ≤ V ∧ V ≤ 9223372036854775807) (w : World) :
    Calls Try.prog 24 #[.int .u64 (IntKind.u64.wrap V), .bool true] w fun e w' => ∃ sv, e = .returned sv ∧ Gr w w' ∧ w'.ownsRow w.heap.size 5 1 sv (formS V).length (u8s (formS V)) :=
  (rform_s V (IntKind.u64.wrap V) hV (IntKind.wrap_u64 V) w).mono fun e w' ⟨sv, h1, h2, s, hs, hfit, hno, ho⟩ => ⟨sv, h1, h2, by
    obtain ⟨t, rfl⟩ : ∃ t, s = t + 1 := ⟨s - 1, by omega⟩
    rw [Nat.add_sub_cancel] at hfit
    have e : fm V (t + 1) = formS V := fm_lebS t 9 V (by omega) hfit.1 hfit.2 (fun q hq => by
      have := hno (q + 1) (by omega) (by omega)
      rw [Nat.add_sub_cancel] at this
      exact this)
    rw [e] at ho; exact ho⟩
set_option maxHeartbeats 4000000 in
theorem rputu_some (b off cap len : Nat) (zs : Nat → Int) (hz : ∀ j, 0 ≤ zs j ∧ zs j < 18446744073709551616) (hl : len ≤ 1099511627776) (w : World) (hc : ∀ j, j < len → w.cell? ⟨b, off + j, none⟩ = some (.int .u64 (zs j))) :
    Calls Try.prog 16 #[.slice (some ⟨b, off, none⟩) len cap] w fun e w' => ∃ sv, e = .returned sv ∧ Gr w w' ∧ w'.ownsRow w.heap.size 5 1 sv (forms formU zs len).length (u8s (forms formU zs len)) := by
  have HC := Lib.hid hc
  have HZ := Lib.hid hz
  obtain ⟨i0, hi, hz0, hz1, hz2⟩ := info_parts info8
  have HI := Lib.hid hi
  have HZ0 := Lib.hid hz0
  have HZ1 := Lib.hid hz1
  have HZ2 := Lib.hid hz2
  clear hc hz hi hz0 hz1 hz2
  go_enter Try.func16, Try.ntmps16
  go_wp2_with fail
  go_loopw [3, 4] (fun sv i wr => ∃ k : Nat, k ≤ len ∧ i = .int .i64 k ∧ Gr w wr ∧ wr.ownsRow w.heap.size 5 1 sv (forms formU zs k).length (u8s (forms formU zs k))) (fun _ i _ => len - (intOf i).toNat)
  case atStart => exact ⟨0, by omega, rfl, Gr.refl _, World.ownsRow_nil _ _ _ _⟩
  case round =>
    obtain ⟨k, hk, rfl, hg, hown⟩ := hrel
    have HG := Lib.hid hg
    have HW := Lib.hid hown
    clear hg hown
    by_cases hlt : k < len
    · have h1 := gr_cell HG.out (HC.out k hlt)
      have HF := Lib.hid (rform_U (zs k) (HZ.out k))
      have hLl := forms_len (f := formU) (lebU_len 9) zs k
      have HFl := Lib.hid (show (formU (zs k)).length ≤ 10 from lebU_len 9 (zs k))
      generalize hn0 : zs k = n0 at *
      have HN0 := Lib.hid hn0
      generalize hL : forms formU zs k = L at *
      have HL := Lib.hid hL
      generalize hFF : formU n0 = F at *
      have HFF := Lib.hid hFF
      clear hn0 hL hFF
      have HSl := Lib.hid (show (u8s F).length = F.length * 1 by rw [u8s_len1])
      go_wp2_with (first | (go_at_call 24; refine (HF.out _).mono ?_; rintro e w2 ⟨s2, rfl, hg2, ho2⟩; have HG2 := Lib.hid hg2; have HO2 := Lib.hid ho2; clear hg2 ho2) | (at_builtin; refine wpList_append_src rfl _ _ 22 rfl w.heap.size 5 i0 (.int .u8 0) 1 1 Try.underlying22 HI.out HZ0.out HZ1.out HZ2.out rfl (by decide) u3 L.length (u8s L) rfl (own_gr HW.out HG2.out) s2 F.length (u8s F) rfl (src_of_owns HO2.out) HSl.out (u8s_one _) (by unfold maxLen; have := HFl.out; omega) (by have := HFl.out; omega) (by have := HG.out.size; have := HG2.out.size; omega) ?_))
      intro v' w3 hown3 hgb3
      have HG3 := Lib.hid ((gr_trans HG.out HG2.out).grown hgb3 (fun q hq => (HW.out.lt q hq).1))
      have HO3 := Lib.hid (show w3.ownsRow w.heap.size 5 1 v' (forms formU zs (k + 1)).length (u8s (forms formU zs (k + 1))) by
        rw [forms, HL.out, HN0.out, HFF.out, u8s_app, List.length_append]; exact hown3)
      clear hown3 hgb3
      go_wp2
      exact ⟨⟨k + 1, by omega, by go_num, HG3.out, HO3.out⟩, by simp [intOf]; omega⟩
    · obtain rfl : len = k := by omega
      go_wp2
      go_ret
      exact ⟨_, rfl, HG.out, HW.out⟩
theorem rputu_zero (a : Option Addr) (c : Nat) (w : World) : Calls Try.prog 16 #[.slice a 0 c] w fun e w' => e = .returned (.slice none 0 0) ∧ Gr w w' := by
  go_enter Try.func16, Try.ntmps16
  go_wp2_with fail
  refine wp_loop_rounds 1 ?_
  rw [rounds_succ]
  go_wp2
  go_ret
  exact ⟨rfl, Gr.refl _⟩
theorem rputu_any (sv : Value) (len : Nat) (zs : Nat → Int) (hz : ∀ j, 0 ≤ zs j ∧ zs j < 18446744073709551616) (hl : len ≤ 1099511627776) (w : World) (h : Ks .u64 w sv len zs) :
    Calls Try.prog 16 #[sv] w fun e w' => ∃ sv, e = .returned sv ∧ Gr w w' ∧ w'.ownsRow w.heap.size 5 1 sv (forms formU zs len).length (u8s (forms formU zs len)) := by
  rcases h with ⟨rfl, x, c, rfl⟩ | ⟨_, b, off, c, rfl, hc⟩
  · exact (rputu_zero x c w).mono fun e w' h => ⟨_, h.1, h.2, World.ownsRow_nil _ _ _ _⟩
  · exact rputu_some b off c len zs hz hl w hc
set_option maxHeartbeats 4000000 in
theorem rputs_some (b off cap len : Nat) (zs : Nat → Int) (hz : ∀ j, -9223372036854775808 ≤ zs j ∧ zs j ≤ 9223372036854775807) (hl : len ≤ 1099511627776) (w : World) (hc : ∀ j, j < len → w.cell? ⟨b, off + j, none⟩ = some (.int .i64 (zs j))) :
    Calls Try.prog 18 #[.slice (some ⟨b, off, none⟩) len cap] w fun e w' => ∃ sv, e = .returned sv ∧ Gr w w' ∧ w'.ownsRow w.heap.size 5 1 sv (forms formS zs len).length (u8s (forms formS zs len)) := by
  have HC := Lib.hid hc
  have HZ := Lib.hid hz
  obtain ⟨i0, hi, hz0, hz1, hz2⟩ := info_parts info8
  have HI := Lib.hid hi
  have HZ0 := Lib.hid hz0
  have HZ1 := Lib.hid hz1
  have HZ2 := Lib.hid hz2
  clear hc hz hi hz0 hz1 hz2
  go_enter Try.func18, Try.ntmps18
  go_wp2_with fail
  go_loopw [3, 4] (fun sv i wr => ∃ k : Nat, k ≤ len ∧ i = .int .i64 k ∧ Gr w wr ∧ wr.ownsRow w.heap.size 5 1 sv (forms formS zs k).length (u8s (forms formS zs k))) (fun _ i _ => len - (intOf i).toNat)
  case atStart => exact ⟨0, by omega, rfl, Gr.refl _, World.ownsRow_nil _ _ _ _⟩
  case round =>
    obtain ⟨k, hk, rfl, hg, hown⟩ := hrel
    have HG := Lib.hid hg
    have HW := Lib.hid hown
    clear hg hown
    by_cases hlt : k < len
    · have h1 := gr_cell HG.out (HC.out k hlt)
      have HF := Lib.hid (rform_S (zs k) (HZ.out k))
      have hLl := forms_len (f := formS) (lebS_len 9) zs k
      have HFl := Lib.hid (show (formS (zs k)).length ≤ 10 from lebS_len 9 (zs k))
      generalize hn0 : zs k = n0 at *
      have HN0 := Lib.hid hn0
      generalize hL : forms formS zs k = L at *
      have HL := Lib.hid hL
      generalize hFF : formS n0 = F at *
      have HFF := Lib.hid hFF
      clear hn0 hL hFF
      have HSl := Lib.hid (show (u8s F).length = F.length * 1 by rw [u8s_len1])
      go_wp2_with (first | (go_at_call 24; refine (HF.out _).mono ?_; rintro e w2 ⟨s2, rfl, hg2, ho2⟩; have HG2 := Lib.hid hg2; have HO2 := Lib.hid ho2; clear hg2 ho2) | (at_builtin; refine wpList_append_src rfl _ _ 22 rfl w.heap.size 5 i0 (.int .u8 0) 1 1 Try.underlying22 HI.out HZ0.out HZ1.out HZ2.out rfl (by decide) u3 L.length (u8s L) rfl (own_gr HW.out HG2.out) s2 F.length (u8s F) rfl (src_of_owns HO2.out) HSl.out (u8s_one _) (by unfold maxLen; have := HFl.out; omega) (by have := HFl.out; omega) (by have := HG.out.size; have := HG2.out.size; omega) ?_))
      intro v' w3 hown3 hgb3
      have HG3 := Lib.hid ((gr_trans HG.out HG2.out).grown hgb3 (fun q hq => (HW.out.lt q hq).1))
      have HO3 := Lib.hid (show w3.ownsRow w.heap.size 5 1 v' (forms formS zs (k + 1)).length (u8s (forms formS zs (k + 1))) by
        rw [forms, HL.out, HN0.out, HFF.out, u8s_app, List.length_append]; exact hown3)
      clear hown3 hgb3
      go_wp2
      exact ⟨⟨k + 1, by omega, by go_num, HG3.out, HO3.out⟩, by simp [intOf]; omega⟩
    · obtain rfl : len = k := by omega
      go_wp2
      go_ret
      exact ⟨_, rfl, HG.out, HW.out⟩
theorem rputs_zero (a : Option Addr) (c : Nat) (w : World) : Calls Try.prog 18 #[.slice a 0 c] w fun e w' => e = .returned (.slice none 0 0) ∧ Gr w w' := by
  go_enter Try.func18, Try.ntmps18
  go_wp2_with fail
  refine wp_loop_rounds 1 ?_
  rw [rounds_succ]
  go_wp2
  go_ret
  exact ⟨rfl, Gr.refl _⟩
theorem rputs_any (sv : Value) (len : Nat) (zs : Nat → Int) (hz : ∀ j, -9223372036854775808 ≤ zs j ∧ zs j ≤ 9223372036854775807) (hl : len ≤ 1099511627776) (w : World) (h : Ks .i64 w sv len zs) :
    Calls Try.prog 18 #[sv] w fun e w' => ∃ sv, e = .returned sv ∧ Gr w w' ∧ w'.ownsRow w.heap.size 5 1 sv (forms formS zs len).length (u8s (forms formS zs len)) := by
  rcases h with ⟨rfl, x, c, rfl⟩ | ⟨_, b, off, c, rfl, hc⟩
  · exact (rputs_zero x c w).mono fun e w' h => ⟨_, h.1, h.2, World.ownsRow_nil _ _ _ _⟩
  · exact rputs_some b off c len zs hz hl w hc
theorem str_of_src {w : World} {v : Value} {l : List Int} (h : Src w v l.length (u8s l)) : Str w v l := by
  intro dst hd
  rcases h with ⟨rfl, hl, _⟩ | ⟨ad, c, rfl, hc⟩
  · obtain rfl : l = [] := List.eq_nil_of_length_eq_zero hl
    exact run_convert_bytes_nil w 22 5 Try.underlying22 Try.underlying5 0 0 dst hd
  · have h1 := run_loadCells_list (P := Try.prog) w ad (u8s l) hc
    rw [u8s_len] at h1
    rw [run_convert_bytes_string w 22 dst 5 (some ad) l.length c Try.underlying22 Try.underlying5 hd, run_bytesToString w ad l.length c l h1, foldl_push_bytes]
    congr 2
    simp [strOfNums]
def ΦW (ua sa : Option Addr) (un uc sn sc : Nat) (EU ES : List Int) (k : Nat) (v : Value) (wn : World) : Prop :=
  match k with
  | 0 => v = (.bool true)
  | 1 => v = (.bool true)
  | 2 => v = (.slice ua un uc)
  | 3 => Src wn v EU.length (u8s EU)
  | 4 => v = (.string (strOfNums EU))
  | 5 => v = (.slice ua un uc)
  | 6 => Src wn v EU.length (u8s EU)
  | 7 => v = (.string (strOfNums EU))
  | 8 => v = (.bool true)
  | 9 => v = (.bool true)
  | 10 => v = (.bool true)
  | 11 => v = (.slice sa sn sc)
  | 12 => Src wn v ES.length (u8s ES)
  | 13 => v = (.string (strOfNums ES))
  | 14 => v = (.slice sa sn sc)
  | 15 => Src wn v ES.length (u8s ES)
  | 16 => v = (.string (strOfNums ES))
  | 17 => v = (.bool true)
  | 18 => v = (.bool true)
  | 19 => v = (.bool true)
  | _ => True
theorem ΦW_mono (ua sa : Option Addr) (un uc sn sc : Nat) (EU ES : List Int) : ∀ k v wn wn', Gr wn wn' → ΦW ua sa un uc sn sc EU ES k v wn → ΦW ua sa un uc sn sc EU ES k v wn' := by
  intro k v wn wn' hg h
  match k with
  | 0 => exact h
  | 1 => exact h
  | 2 => exact h
  | 3 => exact src_gr h hg
  | 4 => exact h
  | 5 => exact h
  | 6 => exact src_gr h hg
  | 7 => exact h
  | 8 => exact h
  | 9 => exact h
  | 10 => exact h
  | 11 => exact h
  | 12 => exact src_gr h hg
  | 13 => exact h
  | 14 => exact h
  | 15 => exact src_gr h hg
  | 16 => exact h
  | 17 => exact h
  | 18 => exact h
  | 19 => exact h
  | k + 20 => trivial
set_option maxRecDepth 100000 in
set_option maxHeartbeats 4000000 in
theorem writes_walk (uv : Value) (ul : List Int) (hul : ∀ x ∈ ul, 0 ≤ x ∧ x < 18446744073709551616) (hu1 : ul.length ≤ 1048576) (sv : Value) (sl : List Int) (hsl : ∀ x ∈ sl, -9223372036854775808 ≤ x ∧ x ≤ 9223372036854775807) (hs1 : sl.length ≤ 1048576) (w : World)
    (hu : Ks .u64 w uv ul.length (lst ul)) (hs : Ks .i64 w sv sl.length (lst sl)) :
    Calls Try.prog 4 #[uv, sv] w fun e w' => e = .returned (.bool true) ∧ Gr w w' := by
  obtain ⟨ua, uc, rfl⟩ := slice_ks hu
  obtain ⟨sa, sc, rfl⟩ := slice_ks hs
  have hzu : ∀ j, 0 ≤ lst ul j ∧ lst ul j < 18446744073709551616 := fun j => by have := lst_bd (l := ul) (a := 0) (b := 18446744073709551615) (by decide) (fun x hx => by have := hul x hx; omega) j; omega
  have hzs : ∀ j, -9223372036854775808 ≤ lst sl j ∧ lst sl j ≤ 9223372036854775807 := lst_bd (by decide) hsl
  have HA := Lib.hid (show ∀ wx, Gr w.drew wx → _ from fun wx h => putu_any (.slice ua ul.length uc) ul.length (lst ul) hzu (by omega) wx (ks_gr hu (gr_trans (Gr.drew (Gr.refl w)) h)))
  have HB := Lib.hid (show ∀ wx, Gr w.drew wx → _ from fun wx h => rputu_any (.slice ua ul.length uc) ul.length (lst ul) hzu (by omega) wx (ks_gr hu (gr_trans (Gr.drew (Gr.refl w)) h)))
  have HC := Lib.hid (show ∀ wx, Gr w.drew wx → _ from fun wx h => puts_any (.slice sa sl.length sc) sl.length (lst sl) hzs (by omega) wx (ks_gr hs (gr_trans (Gr.drew (Gr.refl w)) h)))
  have HD := Lib.hid (show ∀ wx, Gr w.drew wx → _ from fun wx h => rputs_any (.slice sa sl.length sc) sl.length (lst sl) hzs (by omega) wx (ks_gr hs (gr_trans (Gr.drew (Gr.refl w)) h)))
  generalize forms formU (lst ul) ul.length = EU at *
  generalize forms formS (lst sl) sl.length = ES at *
  generalize ul.length = un at *
  generalize sl.length = sn at *
  clear hzu hzs hu hs hul hsl hu1 hs1
  go_enter Try.func4, Try.ntmps4
  go_upto_region 1 with (fail)
  refine wp_region_net (ΦW ua sa un uc sn sc EU ES) (by kernel_rfl) (by kernel_rfl) (ΦW_mono ua sa un uc sn sc EU ES) ?_ ?_
  · refine ⟨?_, ?_, ?_, ?_, ?_, ?_, ?_, ?_, ?_, ?_, ?_, ?_, ?_, ?_, ?_, ?_, ?_, ?_, ?_, ?_, trivial⟩
    · refine NetStep.of rfl fun ρ wx hw hρc hρf hin hdep => ?_
      go_simp
      exact (awake_any wx).mono fun e w4 h => ⟨_, h.1, rfl, h.2⟩
    · refine NetStep.of rfl fun ρ wx hw hρc hρf hin hdep => ?_
      have e5 : ρ (.tmp 5) = (.bool true) := hdep 0 5 (by kernel_rfl)
      go_simp
      exact ⟨rfl, Gr.refl _⟩
    · refine NetStep.guarded rfl 6 (by kernel_rfl) (fun _ _ h => h) fun ρ wx hw hρc hρf hin hdep => ?_
      have e0 : ρ (.tmp 0) = (.slice ua un uc) := hin 0 (by kernel_rfl)
      go_simp
      exact ⟨rfl, Gr.refl _⟩
    · refine NetStep.guarded rfl 6 (by kernel_rfl) (fun _ _ h => h) fun ρ wx hw hρc hρf hin hdep => ?_
      have e7 : ρ (.tmp 7) = (.slice ua un uc) := hdep 2 7 (by kernel_rfl)
      go_simp
      exact (HA.out wx hw).mono fun e w4 h => by obtain ⟨sv, h1, h2, h3⟩ := h; exact ⟨sv, h1, src_of_owns h3, h2⟩
    · refine NetStep.guarded rfl 6 (by kernel_rfl) (fun _ _ h => h) fun ρ wx hw hρc hρf hin hdep => ?_
      have e8 := Lib.hid (show Src wx (ρ (.tmp 8)) EU.length (u8s EU) from hdep 3 8 (by kernel_rfl))
      have hcv := str_of_src e8.out
      unfold Str at hcv
      go_simp
      exact ⟨rfl, Gr.refl _⟩
    · refine NetStep.guarded rfl 6 (by kernel_rfl) (fun _ _ h => h) fun ρ wx hw hρc hρf hin hdep => ?_
      have e0 : ρ (.tmp 0) = (.slice ua un uc) := hin 0 (by kernel_rfl)
      go_simp
      exact ⟨rfl, Gr.refl _⟩
    · refine NetStep.guarded rfl 6 (by kernel_rfl) (fun _ _ h => h) fun ρ wx hw hρc hρf hin hdep => ?_
      have e10 : ρ (.tmp 10) = (.slice ua un uc) := hdep 5 10 (by kernel_rfl)
      go_simp
      exact (HB.out wx hw).mono fun e w4 h => by obtain ⟨sv, h1, h2, h3⟩ := h; exact ⟨sv, h1, src_of_owns h3, h2⟩
    · refine NetStep.guarded rfl 6 (by kernel_rfl) (fun _ _ h => h) fun ρ wx hw hρc hρf hin hdep => ?_
      have e11 := Lib.hid (show Src wx (ρ (.tmp 11)) EU.length (u8s EU) from hdep 6 11 (by kernel_rfl))
      have hcv := str_of_src e11.out
      unfold Str at hcv
      go_simp
      exact ⟨rfl, Gr.refl _⟩
    · refine NetStep.guarded rfl 6 (by kernel_rfl) (fun _ _ h => h) fun ρ wx hw hρc hρf hin hdep => ?_
      have e9 : ρ (.tmp 9) = (.string (strOfNums EU)) := hdep 4 9 (by kernel_rfl)
      have e12 : ρ (.tmp 12) = (.string (strOfNums EU)) := hdep 7 12 (by kernel_rfl)
      generalize strOfNums EU = se at *
      go_simp
      exact ⟨rfl, Gr.refl _⟩
    · refine NetStep.of rfl fun ρ wx hw hρc hρf hin hdep => ?_
      have e6 : ρ (.tmp 6) = (.bool true) := hdep 1 6 (by kernel_rfl)
      have e13 : ρ (.tmp 13) = (.bool true) := hdep 8 13 (by kernel_rfl)
      go_simp
      exact ⟨rfl, Gr.refl _⟩
    · refine NetStep.of rfl fun ρ wx hw hρc hρf hin hdep => ?_
      have e14 : ρ (.tmp 14) = (.bool true) := hdep 9 14 (by kernel_rfl)
      go_simp
      exact ⟨rfl, Gr.refl _⟩
    · refine NetStep.guarded rfl 15 (by kernel_rfl) (fun _ _ h => h) fun ρ wx hw hρc hρf hin hdep => ?_
      have e1 : ρ (.tmp 1) = (.slice sa sn sc) := hin 1 (by kernel_rfl)
      go_simp
      exact ⟨rfl, Gr.refl _⟩
    · refine NetStep.guarded rfl 15 (by kernel_rfl) (fun _ _ h => h) fun ρ wx hw hρc hρf hin hdep => ?_
      have e16 : ρ (.tmp 16) = (.slice sa sn sc) := hdep 11 16 (by kernel_rfl)
      go_simp
      exact (HC.out wx hw).mono fun e w4 h => by obtain ⟨sv, h1, h2, h3⟩ := h; exact ⟨sv, h1, src_of_owns h3, h2⟩
    · refine NetStep.guarded rfl 15 (by kernel_rfl) (fun _ _ h => h) fun ρ wx hw hρc hρf hin hdep => ?_
      have e17 := Lib.hid (show Src wx (ρ (.tmp 17)) ES.length (u8s ES) from hdep 12 17 (by kernel_rfl))
      have hcv := str_of_src e17.out
      unfold Str at hcv
      go_simp
      exact ⟨rfl, Gr.refl _⟩
    · refine NetStep.guarded rfl 15 (by kernel_rfl) (fun _ _ h => h) fun ρ wx hw hρc hρf hin hdep => ?_
      have e1 : ρ (.tmp 1) = (.slice sa sn sc) := hin 1 (by kernel_rfl)
      go_simp
      exact ⟨rfl, Gr.refl _⟩
    · refine NetStep.guarded rfl 15 (by kernel_rfl) (fun _ _ h => h) fun ρ wx hw hρc hρf hin hdep => ?_
      have e19 : ρ (.tmp 19) = (.slice sa sn sc) := hdep 14 19 (by kernel_rfl)
      go_simp
      exact (HD.out wx hw).mono fun e w4 h => by obtain ⟨sv, h1, h2, h3⟩ := h; exact ⟨sv, h1, src_of_owns h3, h2⟩
    · refine NetStep.guarded rfl 15 (by kernel_rfl) (fun _ _ h => h) fun ρ wx hw hρc hρf hin hdep => ?_
      have e20 := Lib.hid (show Src wx (ρ (.tmp 20)) ES.length (u8s ES) from hdep 15 20 (by kernel_rfl))
      have hcv := str_of_src e20.out
      unfold Str at hcv
      go_simp
      exact ⟨rfl, Gr.refl _⟩
    · refine NetStep.guarded rfl 15 (by kernel_rfl) (fun _ _ h => h) fun ρ wx hw hρc hρf hin hdep => ?_
      have e18 : ρ (.tmp 18) = (.string (strOfNums ES)) := hdep 13 18 (by kernel_rfl)
      have e21 : ρ (.tmp 21) = (.string (strOfNums ES)) := hdep 16 21 (by kernel_rfl)
      generalize strOfNums ES = se at *
      go_simp
      exact ⟨rfl, Gr.refl _⟩
    · refine NetStep.of rfl fun ρ wx hw hρc hρf hin hdep => ?_
      have e15 : ρ (.tmp 15) = (.bool true) := hdep 10 15 (by kernel_rfl)
      have e22 : ρ (.tmp 22) = (.bool true) := hdep 17 22 (by kernel_rfl)
      go_simp
      exact ⟨rfl, Gr.refl _⟩
    · refine NetStep.of rfl fun ρ wx hw hρc hρf hin hdep => ?_
      have e23 : ρ (.tmp 23) = (.bool true) := hdep 18 23 (by kernel_rfl)
      go_simp
      exact ⟨rfl, Gr.refl _⟩
  · intro V wN hgN hV
    have hs : V 4 = .bool true := hV 19 _ 4 rfl rfl
    have HN := Lib.hid (gr_trans (Gr.drew (Gr.refl w)) hgN)
    clear hV hgN
    simp only [Exit.then, putAll, Act.put, Option.map_some, Option.getD_some, List.setIfInBounds_toArray, List.set_cons_succ, List.set_cons_zero]
    rw [hs]
    clear hs
    go_wp2
    go_ret
    exact ⟨rfl, HN.out⟩
end Go.Proofs.Ythdklnkaeddogaa
