/-
 TargetRefuses: of every given program, function and place the law returns true.
-/
import Derived.Test.YtifjgocfdnhdeaaMr9
import Derived.Test.YtifjgocfdnhdeaaMr11
namespace Go.Proofs.Ytifjgocfdnhdeaa
open Go.RowKit
namespace Tg
open Ins
theorem bd_in1 {x : Int} (h : 0 ≤ x) (h2 : x ≤ 1048576) : Bd (x + 1) := ⟨by omega, by omega⟩
theorem wri1 {x : Int} (h : 0 ≤ x) (h2 : x ≤ 1048576) : IntKind.i64.wrap (x + 1) = x + 1 ∧ wrap64 (x + 1) = x + 1 := by
 refine ⟨?_, ?_⟩
 ·rw [IntKind.wrap_i64]; omega
 ·unfold wrap64; omega
theorem bd_nat {n : Nat} (h : n ≤ 1048576) : Bd (n : Int) := ⟨by omega, by omega⟩
theorem bd_4097 : Bd 4097 := ⟨by decide, by decide⟩
theorem bd_m2 : Bd (-2) := ⟨by decide, by decide⟩
theorem hostc {x : Int} (h : -1 ≤ x) : x = -1 ∨ 0 ≤ x := by omega
theorem host_a {x : Int} {b : Bool} (h : decide (x = -1) = b) (hx : x = -1) : decide ((0 : Int) = -1) ≠ b := by rw [← h, hx]; decide
theorem host_b {x : Int} {b : Bool} (h : decide (x = -1) = b) (hx : 0 ≤ x) : decide ((-1 : Int) = -1) ≠ b := by rw [← h, decide_eq_false (show ¬ x = -1 by omega)]; decide
theorem le3 {a b c q : Nat} (h : a ≤ b) (h2 : b ≤ c) (e : q = c) : a ≤ q := e ▸ Nat.le_trans h h2
theorem ne3 {a b c : Nat} (h : a < b) (h2 : b ≤ c) : a ≠ c := by omega
theorem k6_or {k n : Nat} (h : k ≤ 6) (h2 : ¬ (k < 6 ∧ 0 < n)) : k = 6 ∨ (k < 6 ∧ n = 0) := by omega
theorem le20 {n : Nat} (h : n ≤ 1048576) : n ≤ 1099511627776 := by omega
theorem i75 {i nf : Nat} (h : i < nf) : i * 7 + 5 < nf * 7 := by omega
theorem i77 {i nf j : Nat} (h : i < nf) (hj : j < 7) : i * 7 + j < nf * 7 := by omega
theorem j33 {j n : Nat} (h : j < n) : j * 3 + 3 ≤ 0 + n * 3 := by omega
set_option maxRecDepth 100000 in
set_option maxHeartbeats 16000000 in
theorem refuses_law {w : World} {sv fv : Value} {P : Pr} (h : PrR w sv fv P) (hsm : SmP P) (hz : ∀ f ∈ P.fs, NilZ f.cv) (f at_ : Int) : Calls Try.prog 5 #[.agg #[sv, fv], .int .i64 f, .int .i64 at_] w fun e w' => e = .returned (.bool true) ∧ Gr w w' := by
 have HP := Lib.hid (pr_hid h)
 have HSM := Lib.hid hsm
 have HZ := Lib.hid hz
 have HCK := Lib.hid (fun wx (hg : Gr w wx) => check_any (prR_gr h hg))
 obtain ⟨xs, cs, rfl, -⟩ := id h.ss
 obtain ⟨xf, cf, rfl, -⟩ := id h.fs
 have HH := Lib.hid h
 obtain ⟨ns, hns⟩ : ∃ n, P.ss.length = n := ⟨_, rfl⟩
 obtain ⟨nf, hnf⟩ : ∃ n, P.fs.length = n := ⟨_, rfl⟩
 have HNF := Lib.hid hnf
 have HNS := Lib.hid hns
 rw [hns, hnf] at HP HCK
 rw [hns, hnf]
 clear h hsm hns hz
 obtain ⟨i0, hi, hz0, hz1, hz2⟩ := info_parts infoZ
 have HI := Lib.hid hi
 have HZ0 := Lib.hid hz0
 have HZ1 := Lib.hid hz1
 have HZ2 := Lib.hid hz2
 clear hi hz0 hz1 hz2
 go_enter Try.func5, Try.ntmps5
 go_upto_region 1 with fail
 have HG1 := Lib.hid ((Gr.refl w).alloc #[.slice xs ns cs, .slice xf nf cf] 34)
 have HB1 := Lib.hid (heap_alloc_new w (.cells #[.slice xs ns cs, .slice xf nf cf] 34))
 generalize w.alloc (.cells #[.slice xs ns cs, .slice xf nf cf] 34) = w1 at *
 generalize hgp : w.heap.size = gp at *
 go_wp2_with fail
 refine (awake_any _).mono ?_
 rintro e w2 ⟨rfl, hg2⟩
 have HG2 := Lib.hid (gr_trans HG1.out hg2)
 have HB2 := Lib.hid (gr_block hg2 HB1.out)
 clear hg2
 obtain ⟨p0, p1⟩ := cells2 HB2.out
 by_cases hck : ChkP P
 case neg =>
  rw [chk_no hck] at HCK
  go_wp2_with fail
  refine (HCK.out _ HG2.out).mono ?_
  rintro e w3 ⟨rfl, hg3⟩
  have HG3 := Lib.hid (gr_trans HG2.out hg3)
  clear hg3
  go_wp2
  go_ret
  exact ⟨rfl, HG3.out⟩
 rw [chk_yes hck] at HCK
 go_wp2_with fail
 refine (HCK.out _ HG2.out).mono ?_
 rintro e w3 ⟨rfl, hg3⟩
 have HG4 := Lib.hid (gr_trans HG2.out hg3)
 have HB4 := Lib.hid (gr_block hg3 HB2.out)
 clear hg3 p0 p1
 generalize w3 = w4 at *
 obtain ⟨q0, q1⟩ := cells2 HB4.out
 by_cases hn0 : nf = 0
 ·have hz0 : ((nf : Int) == 0) = true := by rw [hn0]; rfl
  go_wp2
  go_ret
  exact ⟨rfl, HG4.out⟩
 have hz0 : ((nf : Int) == 0) = false := beq_eq_false_iff_ne.2 (fun e => hn0 (by omega))
 have HNP := Lib.hid (Nat.pos_of_ne_zero hn0)
 have HNL := Lib.hid (show nf ≤ 1048576 from HNF.out ▸ HSM.out.fs)
 have HNSL := Lib.hid (show ns ≤ 1048576 from HNS.out ▸ HSM.out.ss)
 obtain ⟨i, hin, hwn, hwi, hw6⟩ := idx_of f HNP.out HNL.out
 have HIN := Lib.hid hin
 have hii : (i : Int) < (nf : Int) := Int.ofNat_lt.2 hin
 obtain ⟨g, hgf⟩ : ∃ g, P.fs[i]? = some g := ⟨_, List.getElem?_eq_getElem (by rw [HNF.out]; exact hin)⟩
 have hgm := List.mem_of_getElem? hgf
 have hwl := whl_all (hck.2 i g hgf).1 HSM.out
 obtain ⟨b, off, rfl, hcl⟩ := rwR_at (z := 7) (fun _ => rfl) HH.out.fs hgf (by decide)
 have hfr := HH.out.fus g hgm
 have hzg := HZ.out g hgm
 have hncl := HSM.out.cs g hgm
 obtain ⟨⟨host, sig, inn, out, loc, l⟩, cv, mv⟩ := g
 obtain ⟨xc, cc, e1, -⟩ := id hfr.cs
 dsimp only at e1 hwl hncl
 subst e1
 obtain ⟨n, hn⟩ : ∃ n, l.length = n := ⟨_, rfl⟩
 obtain ⟨s, hs⟩ : ∃ s, inn + loc = s := ⟨_, rfl⟩
 have hsb : 0 ≤ s ∧ s ≤ 1099511627776 := by omega
 have hsw : IntKind.i64.wrap (inn + loc) = s ∧ wrap64 (inn + loc) = s := by
  refine ⟨?_, ?_⟩
  ·rw [IntKind.wrap_i64]; omega
  ·unfold wrap64; omega
 rw [hn] at hncl
 have HWL := Lib.hid hwl
 have HSB := Lib.hid hsb
 have HSW := Lib.hid hsw
 have HN := Lib.hid hn
 have HNL2 := Lib.hid hncl
 have HFR := Lib.hid hfr
 have HGF := Lib.hid hgf
 have HZG := Lib.hid hzg
 have HCHK := Lib.hid hck
 have HD := Lib.hid (show ∀ wx, Gr w wx → ∀ j u, (#[.int .i64 host, .int .i64 sig, .int .i64 inn, .int .i64 out, .int .i64 loc, .slice xc n cc] : Array Value)[j]? = some u → wx.cell? ⟨b, off + i * 7 + j, none⟩ = some u from fun wx hg j u hu => gr_cell hg (hcl j u (by
  rw [← hn] at hu
  match j, hu with
  | 0, hu => exact hu
  | 1, hu => exact hu
  | 2, hu => exact hu
  | 3, hu => exact hu
  | 4, hu => exact hu
  | 5, hu => exact hu
  | j + 6, hu => cases hu)))
 clear hn0 hin hwl hfr hgf hzg hncl hcl hgm hsb hn hck
 go_upto_region 6 with fail
 rw [hw6]
 clear hwn hwi hw6 hz0 hgp
 have d2 := HD.out w4 HG4.out 2 _ rfl
 have d4 := HD.out w4 HG4.out 4 _ rfl
 have d5 := HD.out w4 HG4.out 5 _ rfl
 obtain ⟨T1, T2⟩ := HSW.out
 clear hs hsw
 refine wp_region_net_tail 34 (fun jφ v wn => match jφ with | 0 => v = .agg #[.int .i64 65, .int .i64 0, .int .u64 0] | 1 => v = .agg #[.int .i64 64878, .int .i64 0, .int .u64 0] | 2 => v = .pointer (some ⟨gp, 1, none⟩) | 3 => v = .slice (some ⟨b, off, none⟩) nf cf | 4 => v = .int .i64 (nf : Nat) | 5 => v = .agg #[.int .i64 16, .int .i64 (nf : Nat), .int .u64 0] | 6 => v = .pointer (some ⟨gp, 0, none⟩) | 7 => v = .slice xs ns cs | 8 => v = .int .i64 (ns : Nat) | 9 => v = .agg #[.int .i64 17, .int .i64 (ns : Nat), .int .u64 0] | 10 => v = .pointer (some ⟨gp, 1, none⟩) | 11 => v = .slice (some ⟨b, off, none⟩) nf cf | 12 => v = .int .i64 (i : Int) | 13 => v = .pointer (some ⟨b, off + i * 7, none⟩) | 14 => v = .pointer (some ⟨b, off + i * 7 + 2, none⟩) | 15 => v = .int .i64 inn | 16 => v = .pointer (some ⟨gp, 1, none⟩) | 17 => v = .slice (some ⟨b, off, none⟩) nf cf | 18 => v = .int .i64 (i : Int) | 19 => v = .pointer (some ⟨b, off + i * 7, none⟩) | 20 => v = .pointer (some ⟨b, off + i * 7 + 4, none⟩) | 21 => v = .int .i64 loc | 22 => v = .int .i64 s | 23 => v = .agg #[.int .i64 32, .int .i64 s, .int .u64 0] | 24 => v = .pointer (some ⟨gp, 1, none⟩) | 25 => v = .slice (some ⟨b, off, none⟩) nf cf | 26 => v = .int .i64 (i : Int) | 27 => v = .pointer (some ⟨b, off + i * 7, none⟩) | 28 => v = .pointer (some ⟨b, off + i * 7 + 5, none⟩) | 29 => v = .slice xc n cc | 30 => v = .int .i64 (n : Nat) | 31 => v = .agg #[.int .i64 12, .int .i64 (n : Nat), .int .u64 0] | 32 => v = .agg #[.int .i64 65, .int .i64 0, .int .u64 0, .int .i64 64878, .int .i64 0, .int .u64 0, .int .i64 16, .int .i64 (nf : Nat), .int .u64 0, .int .i64 17, .int .i64 (ns : Nat), .int .u64 0, .int .i64 32, .int .i64 s, .int .u64 0, .int .i64 12, .int .i64 (n : Nat), .int .u64 0] | 33 => ∃ g7, v = .pointer (some ⟨g7, 0, none⟩) ∧ w4.heap.size ≤ g7 ∧ wn.heap[g7]? = some (.cells #[.int .i64 0, .int .i64 0, .int .u64 0, .int .i64 0, .int .i64 0, .int .u64 0, .int .i64 0, .int .i64 0, .int .u64 0, .int .i64 0, .int .i64 0, .int .u64 0, .int .i64 0, .int .i64 0, .int .u64 0, .int .i64 0, .int .i64 0, .int .u64 0] 50 (0, 0)) | _ => True) (by kernel_rfl) (by kernel_rfl) ?_ ?_ ?_
 ·intro k v w1 w2 hg h
  match k, h with
  | 0, h => exact h
  | 1, h => exact h
  | 2, h => exact h
  | 3, h => exact h
  | 4, h => exact h
  | 5, h => exact h
  | 6, h => exact h
  | 7, h => exact h
  | 8, h => exact h
  | 9, h => exact h
  | 10, h => exact h
  | 11, h => exact h
  | 12, h => exact h
  | 13, h => exact h
  | 14, h => exact h
  | 15, h => exact h
  | 16, h => exact h
  | 17, h => exact h
  | 18, h => exact h
  | 19, h => exact h
  | 20, h => exact h
  | 21, h => exact h
  | 22, h => exact h
  | 23, h => exact h
  | 24, h => exact h
  | 25, h => exact h
  | 26, h => exact h
  | 27, h => exact h
  | 28, h => exact h
  | 29, h => exact h
  | 30, h => exact h
  | 31, h => exact h
  | 32, h => exact h
  | 33, h => obtain ⟨g7, h1, h2, h3⟩ := h; exact ⟨g7, h1, h2, gr_block hg h3⟩
  | _ + 34, _ => trivial
 ·refine ⟨?_, ?_, ?_, ?_, ?_, ?_, ?_, ?_, ?_, ?_, ?_, ?_, ?_, ?_, ?_, ?_, ?_, ?_, ?_, ?_, ?_, ?_, ?_, ?_, ?_, ?_, ?_, ?_, ?_, ?_, ?_, ?_, ?_, ?_, trivial⟩
  ·refine NetStep.of rfl fun ρ wx hw hρc hρf hin hdep => ?_
   have ec := hρc
   refine net_build 47 _ rfl #[.int .i64 65, .int .i64 0, .int .u64 0] ?_ ?_
   ·(first | (simp only [List.map_toArray, List.map_cons, List.map_nil, ec]; kernel_rfl) | (go_simp; kernel_rfl))
   ·exact rfl
  ·refine NetStep.of rfl fun ρ wx hw hρc hρf hin hdep => ?_
   have ec := hρc
   refine net_build 47 _ rfl #[.int .i64 64878, .int .i64 0, .int .u64 0] ?_ ?_
   ·(first | (simp only [List.map_toArray, List.map_cons, List.map_nil, ec]; kernel_rfl) | (go_simp; kernel_rfl))
   ·exact rfl
  ·refine NetStep.of rfl fun ρ wx hw hρc hρf hin hdep => ?_
   have e3 : ρ (.tmp 3) = (.pointer (some ⟨gp, 0, none⟩)) := hin 3 (by kernel_rfl)
   go_simp
   exact ⟨rfl, Gr.refl _⟩
  ·refine NetStep.of rfl fun ρ wx hw hρc hρf hin hdep => ?_
   have e33 : ρ (.tmp 33) = (.pointer (some ⟨gp, 1, none⟩)) := hdep 2 33 (by kernel_rfl)
   have hc := gr_cell (gr_trans (Gr.drew (Gr.refl _)) hw) q1
   go_simp
   exact ⟨rfl, Gr.refl _⟩
  ·refine NetStep.of rfl fun ρ wx hw hρc hρf hin hdep => ?_
   have e34 : ρ (.tmp 34) = (.slice (some ⟨b, off, none⟩) nf cf) := hdep 3 34 (by kernel_rfl)
   go_simp
   exact ⟨rfl, Gr.refl _⟩
  ·refine NetStep.of rfl fun ρ wx hw hρc hρf hin hdep => ?_
   have e35 : ρ (.tmp 35) = (.int .i64 (nf : Nat)) := hdep 4 35 (by kernel_rfl)
   have ec := hρc
   refine net_build 47 _ rfl #[.int .i64 16, .int .i64 (nf : Nat), .int .u64 0] ?_ ?_
   ·(first | (simp only [List.map_toArray, List.map_cons, List.map_nil, ec, e35]; kernel_rfl) | (go_simp; kernel_rfl))
   ·exact rfl
  ·refine NetStep.of rfl fun ρ wx hw hρc hρf hin hdep => ?_
   have e3 : ρ (.tmp 3) = (.pointer (some ⟨gp, 0, none⟩)) := hin 3 (by kernel_rfl)
   go_simp
   exact ⟨rfl, Gr.refl _⟩
  ·refine NetStep.of rfl fun ρ wx hw hρc hρf hin hdep => ?_
   have e37 : ρ (.tmp 37) = (.pointer (some ⟨gp, 0, none⟩)) := hdep 6 37 (by kernel_rfl)
   have hc := gr_cell (gr_trans (Gr.drew (Gr.refl _)) hw) q0
   go_simp
   exact ⟨rfl, Gr.refl _⟩
  ·refine NetStep.of rfl fun ρ wx hw hρc hρf hin hdep => ?_
   have e38 : ρ (.tmp 38) = (.slice xs ns cs) := hdep 7 38 (by kernel_rfl)
   go_simp
   exact ⟨rfl, Gr.refl _⟩
  ·refine NetStep.of rfl fun ρ wx hw hρc hρf hin hdep => ?_
   have e39 : ρ (.tmp 39) = (.int .i64 (ns : Nat)) := hdep 8 39 (by kernel_rfl)
   have ec := hρc
   refine net_build 47 _ rfl #[.int .i64 17, .int .i64 (ns : Nat), .int .u64 0] ?_ ?_
   ·(first | (simp only [List.map_toArray, List.map_cons, List.map_nil, ec, e39]; kernel_rfl) | (go_simp; kernel_rfl))
   ·exact rfl
  ·refine NetStep.of rfl fun ρ wx hw hρc hρf hin hdep => ?_
   have e3 : ρ (.tmp 3) = (.pointer (some ⟨gp, 0, none⟩)) := hin 3 (by kernel_rfl)
   go_simp
   exact ⟨rfl, Gr.refl _⟩
  ·refine NetStep.of rfl fun ρ wx hw hρc hρf hin hdep => ?_
   have e41 : ρ (.tmp 41) = (.pointer (some ⟨gp, 1, none⟩)) := hdep 10 41 (by kernel_rfl)
   have hc := gr_cell (gr_trans (Gr.drew (Gr.refl _)) hw) q1
   go_simp
   exact ⟨rfl, Gr.refl _⟩
  ·refine NetStep.of rfl fun ρ wx hw hρc hρf hin hdep => ?_
   have e1 : ρ (.tmp 1) = (.int .i64 (i : Int)) := hin 1 (by kernel_rfl)
   go_simp
   exact ⟨rfl, Gr.refl _⟩
  ·refine NetStep.of rfl fun ρ wx hw hρc hρf hin hdep => ?_
   have e42 : ρ (.tmp 42) = (.slice (some ⟨b, off, none⟩) nf cf) := hdep 11 42 (by kernel_rfl)
   have e43 : ρ (.tmp 43) = (.int .i64 (i : Int)) := hdep 12 43 (by kernel_rfl)
   go_simp
   exact ⟨rfl, Gr.refl _⟩
  ·refine NetStep.of rfl fun ρ wx hw hρc hρf hin hdep => ?_
   have e44 : ρ (.tmp 44) = (.pointer (some ⟨b, off + i * 7, none⟩)) := hdep 13 44 (by kernel_rfl)
   go_simp
   exact ⟨rfl, Gr.refl _⟩
  ·refine NetStep.of rfl fun ρ wx hw hρc hρf hin hdep => ?_
   have e45 : ρ (.tmp 45) = (.pointer (some ⟨b, off + i * 7 + 2, none⟩)) := hdep 14 45 (by kernel_rfl)
   have hc := gr_cell (gr_trans (Gr.drew (Gr.refl _)) hw) d2
   go_simp
   exact ⟨rfl, Gr.refl _⟩
  ·refine NetStep.of rfl fun ρ wx hw hρc hρf hin hdep => ?_
   have e3 : ρ (.tmp 3) = (.pointer (some ⟨gp, 0, none⟩)) := hin 3 (by kernel_rfl)
   go_simp
   exact ⟨rfl, Gr.refl _⟩
  ·refine NetStep.of rfl fun ρ wx hw hρc hρf hin hdep => ?_
   have e47 : ρ (.tmp 47) = (.pointer (some ⟨gp, 1, none⟩)) := hdep 16 47 (by kernel_rfl)
   have hc := gr_cell (gr_trans (Gr.drew (Gr.refl _)) hw) q1
   go_simp
   exact ⟨rfl, Gr.refl _⟩
  ·refine NetStep.of rfl fun ρ wx hw hρc hρf hin hdep => ?_
   have e1 : ρ (.tmp 1) = (.int .i64 (i : Int)) := hin 1 (by kernel_rfl)
   go_simp
   exact ⟨rfl, Gr.refl _⟩
  ·refine NetStep.of rfl fun ρ wx hw hρc hρf hin hdep => ?_
   have e48 : ρ (.tmp 48) = (.slice (some ⟨b, off, none⟩) nf cf) := hdep 17 48 (by kernel_rfl)
   have e49 : ρ (.tmp 49) = (.int .i64 (i : Int)) := hdep 18 49 (by kernel_rfl)
   go_simp
   exact ⟨rfl, Gr.refl _⟩
  ·refine NetStep.of rfl fun ρ wx hw hρc hρf hin hdep => ?_
   have e50 : ρ (.tmp 50) = (.pointer (some ⟨b, off + i * 7, none⟩)) := hdep 19 50 (by kernel_rfl)
   go_simp
   exact ⟨rfl, Gr.refl _⟩
  ·refine NetStep.of rfl fun ρ wx hw hρc hρf hin hdep => ?_
   have e51 : ρ (.tmp 51) = (.pointer (some ⟨b, off + i * 7 + 4, none⟩)) := hdep 20 51 (by kernel_rfl)
   have hc := gr_cell (gr_trans (Gr.drew (Gr.refl _)) hw) d4
   go_simp
   exact ⟨rfl, Gr.refl _⟩
  ·refine NetStep.of rfl fun ρ wx hw hρc hρf hin hdep => ?_
   have e46 : ρ (.tmp 46) = (.int .i64 inn) := hdep 15 46 (by kernel_rfl)
   have e52 : ρ (.tmp 52) = (.int .i64 loc) := hdep 21 52 (by kernel_rfl)
   go_simp
   exact ⟨rfl, Gr.refl _⟩
  ·refine NetStep.of rfl fun ρ wx hw hρc hρf hin hdep => ?_
   have e53 : ρ (.tmp 53) = (.int .i64 s) := hdep 22 53 (by kernel_rfl)
   have ec := hρc
   refine net_build 47 _ rfl #[.int .i64 32, .int .i64 s, .int .u64 0] ?_ ?_
   ·(first | (simp only [List.map_toArray, List.map_cons, List.map_nil, ec, e53]; kernel_rfl) | (go_simp; kernel_rfl))
   ·exact rfl
  ·refine NetStep.of rfl fun ρ wx hw hρc hρf hin hdep => ?_
   have e3 : ρ (.tmp 3) = (.pointer (some ⟨gp, 0, none⟩)) := hin 3 (by kernel_rfl)
   go_simp
   exact ⟨rfl, Gr.refl _⟩
  ·refine NetStep.of rfl fun ρ wx hw hρc hρf hin hdep => ?_
   have e55 : ρ (.tmp 55) = (.pointer (some ⟨gp, 1, none⟩)) := hdep 24 55 (by kernel_rfl)
   have hc := gr_cell (gr_trans (Gr.drew (Gr.refl _)) hw) q1
   go_simp
   exact ⟨rfl, Gr.refl _⟩
  ·refine NetStep.of rfl fun ρ wx hw hρc hρf hin hdep => ?_
   have e1 : ρ (.tmp 1) = (.int .i64 (i : Int)) := hin 1 (by kernel_rfl)
   go_simp
   exact ⟨rfl, Gr.refl _⟩
  ·refine NetStep.of rfl fun ρ wx hw hρc hρf hin hdep => ?_
   have e56 : ρ (.tmp 56) = (.slice (some ⟨b, off, none⟩) nf cf) := hdep 25 56 (by kernel_rfl)
   have e57 : ρ (.tmp 57) = (.int .i64 (i : Int)) := hdep 26 57 (by kernel_rfl)
   go_simp
   exact ⟨rfl, Gr.refl _⟩
  ·refine NetStep.of rfl fun ρ wx hw hρc hρf hin hdep => ?_
   have e58 : ρ (.tmp 58) = (.pointer (some ⟨b, off + i * 7, none⟩)) := hdep 27 58 (by kernel_rfl)
   go_simp
   exact ⟨rfl, Gr.refl _⟩
  ·refine NetStep.of rfl fun ρ wx hw hρc hρf hin hdep => ?_
   have e59 : ρ (.tmp 59) = (.pointer (some ⟨b, off + i * 7 + 5, none⟩)) := hdep 28 59 (by kernel_rfl)
   have hc := gr_cell (gr_trans (Gr.drew (Gr.refl _)) hw) d5
   go_simp
   exact ⟨rfl, Gr.refl _⟩
  ·refine NetStep.of rfl fun ρ wx hw hρc hρf hin hdep => ?_
   have e60 : ρ (.tmp 60) = (.slice xc n cc) := hdep 29 60 (by kernel_rfl)
   go_simp
   exact ⟨rfl, Gr.refl _⟩
  ·refine NetStep.of rfl fun ρ wx hw hρc hρf hin hdep => ?_
   have e61 : ρ (.tmp 61) = (.int .i64 (n : Nat)) := hdep 30 61 (by kernel_rfl)
   have ec := hρc
   refine net_build 47 _ rfl #[.int .i64 12, .int .i64 (n : Nat), .int .u64 0] ?_ ?_
   ·(first | (simp only [List.map_toArray, List.map_cons, List.map_nil, ec, e61]; kernel_rfl) | (go_simp; kernel_rfl))
   ·exact rfl
  ·refine NetStep.of rfl fun ρ wx hw hρc hρf hin hdep => ?_
   have e31 : ρ (.tmp 31) = (.agg #[.int .i64 65, .int .i64 0, .int .u64 0]) := hdep 0 31 (by kernel_rfl)
   have e32 : ρ (.tmp 32) = (.agg #[.int .i64 64878, .int .i64 0, .int .u64 0]) := hdep 1 32 (by kernel_rfl)
   have e36 : ρ (.tmp 36) = (.agg #[.int .i64 16, .int .i64 (nf : Nat), .int .u64 0]) := hdep 5 36 (by kernel_rfl)
   have e40 : ρ (.tmp 40) = (.agg #[.int .i64 17, .int .i64 (ns : Nat), .int .u64 0]) := hdep 9 40 (by kernel_rfl)
   have e54 : ρ (.tmp 54) = (.agg #[.int .i64 32, .int .i64 s, .int .u64 0]) := hdep 23 54 (by kernel_rfl)
   have e62 : ρ (.tmp 62) = (.agg #[.int .i64 12, .int .i64 (n : Nat), .int .u64 0]) := hdep 31 62 (by kernel_rfl)
   refine net_build 50 _ rfl #[.int .i64 65, .int .i64 0, .int .u64 0, .int .i64 64878, .int .i64 0, .int .u64 0, .int .i64 16, .int .i64 (nf : Nat), .int .u64 0, .int .i64 17, .int .i64 (ns : Nat), .int .u64 0, .int .i64 32, .int .i64 s, .int .u64 0, .int .i64 12, .int .i64 (n : Nat), .int .u64 0] ?_ ?_
   ·(first | (simp only [List.map_toArray, List.map_cons, List.map_nil, ec, e31, e32, e36, e40, e54, e62]; kernel_rfl) | (go_simp; kernel_rfl))
   ·exact rfl
  ·refine NetStep.of rfl fun ρ wx hw hρc hρf hin hdep => ?_
   go_simp
   exact ⟨⟨_, rfl, hw.size, heap_alloc_new _ _⟩, (Gr.refl _).alloc _ _⟩
 ·intro V w5 hg5 hV
  obtain ⟨g7, hv7, hz7, hb7⟩ := hV 33 _ 7 (by decide) rfl rfl
  have hv63 : V 63 = .agg #[.int .i64 65, .int .i64 0, .int .u64 0, .int .i64 64878, .int .i64 0, .int .u64 0, .int .i64 16, .int .i64 (nf : Nat), .int .u64 0, .int .i64 17, .int .i64 (ns : Nat), .int .u64 0, .int .i64 32, .int .i64 s, .int .u64 0, .int .i64 12, .int .i64 (n : Nat), .int .u64 0] := hV 32 _ 63 (by decide) rfl rfl
  have HG5 := Lib.hid (gr_trans HG4.out (gr_trans (Gr.drew (Gr.refl _)) hg5))
  have HB7 := Lib.hid hb7
  have HZ7 := Lib.hid hz7
  have HW45 := Lib.hid hg5
  clear hV hg5 hb7 hz7
  simp only [List.take, List.drop, putAll, Act.put, Option.map_some, Option.getD_some, List.setIfInBounds_toArray, List.set_cons_succ, List.set_cons_zero]
  rw [hv7]
  rw [hv63]
  clear hv7 hv63
  refine wpList_store_row rfl 50 _ _ rfl g7 #[.int .i64 65, .int .i64 0, .int .u64 0, .int .i64 64878, .int .i64 0, .int .u64 0, .int .i64 16, .int .i64 (nf : Nat), .int .u64 0, .int .i64 17, .int .i64 (ns : Nat), .int .u64 0, .int .i64 32, .int .i64 s, .int .u64 0, .int .i64 12, .int .i64 (n : Nat), .int .u64 0] rfl rfl 50 #[.int .i64 0, .int .i64 0, .int .u64 0, .int .i64 0, .int .i64 0, .int .u64 0, .int .i64 0, .int .i64 0, .int .u64 0, .int .i64 0, .int .i64 0, .int .u64 0, .int .i64 0, .int .i64 0, .int .u64 0, .int .i64 0, .int .i64 0, .int .u64 0] HB7.out infoA6 rfl (by kernel_rfl) ?_
  have hsep := Sep.setRow (ex := fun q => q = g7) w5 rfl #[.int .i64 65, .int .i64 0, .int .u64 0, .int .i64 64878, .int .i64 0, .int .u64 0, .int .i64 16, .int .i64 (nf : Nat), .int .u64 0, .int .i64 17, .int .i64 (ns : Nat), .int .u64 0, .int .i64 32, .int .i64 s, .int .u64 0, .int .i64 12, .int .i64 (n : Nat), .int .u64 0]
  have HG6 := Lib.hid (Sep.toGr HG5.out hsep (fun q hq => le3 HG4.out.size HZ7.out hq))
  have HT6 := Lib.hid (show (w5.setRow g7 #[.int .i64 65, .int .i64 0, .int .u64 0, .int .i64 64878, .int .i64 0, .int .u64 0, .int .i64 16, .int .i64 (nf : Nat), .int .u64 0, .int .i64 17, .int .i64 (ns : Nat), .int .u64 0, .int .i64 32, .int .i64 s, .int .u64 0, .int .i64 12, .int .i64 (n : Nat), .int .u64 0]).heap[g7]? = some (.cells (flat ceA (tl nf ns n s)).toArray 50 (0, 0)) from setRow_block HB7.out)
  have HB6 := Lib.hid (hsep.at_ (fun e : gp = g7 => ne3 (Array.getElem?_eq_some_iff.1 HB4.out).1 HZ7.out e) (gr_block (gr_trans (Gr.drew (Gr.refl _)) HW45.out) HB4.out))
  clear hsep d2 d4 d5 q0 q1 T1 T2
  generalize w5.setRow g7 #[.int .i64 65, .int .i64 0, .int .u64 0, .int .i64 64878, .int .i64 0, .int .u64 0, .int .i64 16, .int .i64 (nf : Nat), .int .u64 0, .int .i64 17, .int .i64 (ns : Nat), .int .u64 0, .int .i64 32, .int .i64 s, .int .u64 0, .int .i64 12, .int .i64 (n : Nat), .int .u64 0] = w6 at *
  have HWA := Lib.hid (fun wx (hg : Gr w wx) => with_any (HP.out wx hg) HSM.out HGF.out HZG.out)
  rw [HNF.out] at HWA
  dsimp only at HWA
  rw [HN.out] at HWA
  have HPL := Lib.hid (show i < P.fs.length from by rw [HNF.out]; exact HIN.out)
  go_wp2_with fail
  go_loopw [8] (fun i0 wr => ∃ k : Nat, k ≤ 6 ∧ i0 = .int .i64 k ∧ Gr w6 wr) (fun i0 _ => 6 - (intOf i0).toNat)
  case atStart => exact ⟨0, Nat.zero_le _, rfl, Gr.refl _⟩
  case round =>
   obtain ⟨k, hk, rfl, hgr⟩ := hrel
   have HGR := Lib.hid hgr
   have HGW := Lib.hid (gr_trans HG6.out hgr)
   clear hgr
   by_cases hlt : k < 6 ∧ 0 < n
   ·obtain ⟨hlt, hnp⟩ := hlt
    have HLT := Lib.hid hlt
    have HNN := Lib.hid hnp
    have hki : (k : Int) < 6 := Int.ofNat_lt.2 hlt
    have hni : (0 : Int) < (n : Int) := Int.ofNat_lt.2 hnp
    have TI := wr6 hlt
    obtain ⟨c', hc'⟩ : ∃ c', (tl nf ns n s)[k]? = some c' := ⟨_, List.getElem?_eq_getElem (show k < (tl nf ns n s).length from hlt)⟩
    have HC' := Lib.hid hc'
    obtain ⟨j, hjn, hwn, hwj, hw6⟩ := idx_of at_ hnp HNL2.out
    have HJN := Lib.hid hjn
    obtain ⟨q0, q1⟩ := cells2 (gr_block HGR.out HB6.out)
    have d5 := HD.out wr HGW.out 5 _ rfl
    clear hlt hnp hc' hjn
    have HJ := Lib.hid (And.intro hwn (And.intro hwj hw6))
    clear hwn hwj hw6
    go_upto_region 10 with fail
    go_wp2_with fail
    refine (HWA.out wr HGW.out).mono ?_
    rintro e w7 ⟨fv', cv', rfl, hg7, hof, hoc⟩
    obtain ⟨gf, cf', rfl, _⟩ := own_some hof HNP.out
    obtain ⟨gk, ck', rfl, _⟩ := own_some hoc HNN.out
    have HG7 := Lib.hid hg7
    have HOF := Lib.hid hof
    have HOC := Lib.hid hoc
    clear hg7 hof hoc q0 q1 d5
    go_upto_region 11 with (refine wpList_store_row rfl 34 _ _ rfl w7.heap.size #[.slice xs ns cs, .slice (some ⟨gf, 0, none⟩) nf cf'] rfl rfl 34 #[.slice none 0 0, .slice none 0 0] (heap_alloc_new w7 _) infoPr rfl (by kernel_rfl) ?_)
    have hsep := Sep.setRow (ex := fun q => q = w7.heap.size) (w7.alloc (.cells #[.slice none 0 0, .slice none 0 0] 34)) rfl #[.slice xs ns cs, .slice (some ⟨gf, 0, none⟩) nf cf']
    have hgr2 := Sep.toGr ((Gr.refl w7).alloc #[.slice none 0 0, .slice none 0 0] 34) hsep (fun q hq => Nat.le_of_eq (Eq.symm hq))
    have hbk := setRow_block (c := #[.slice xs ns cs, .slice (some ⟨gf, 0, none⟩) nf cf']) (heap_alloc_new w7 (.cells #[.slice none 0 0, .slice none 0 0] 34))
    have HG78 := Lib.hid hgr2
    have HBQ := Lib.hid hbk
    clear hsep hgr2 hbk
    generalize (w7.alloc (.cells #[.slice none 0 0, .slice none 0 0] 34)).setRow w7.heap.size #[.slice xs ns cs, .slice (some ⟨gf, 0, none⟩) nf cf'] = w8 at *
    generalize hgq : w7.heap.size = gq at *
    have HOF8 := Lib.hid (owns_gr HOF.out HG78.out)
    have HOC8 := Lib.hid (owns_gr HOC.out HG78.out)
    obtain ⟨q0, q1⟩ := cells2 HBQ.out
    have hii : (i : Int) < (nf : Int) := Int.ofNat_lt.2 HIN.out
    have hji : (j : Int) < (n : Int) := Int.ofNat_lt.2 HJN.out
    have e5 : w8.cell? ⟨gf, i * 7 + 5, none⟩ = some (.slice (some ⟨gk, 0, none⟩) n ck') := (HOF8.out.cellAt (i * 7 + 5) (i75 HIN.out)).trans (by rw [flat_at fuA 7 (fun _ => rfl) _ i _ 5 (set_at HPL.out _) (by decide)]; rfl)
    have HT8 := Lib.hid (tl_cells (gr_block (gr_trans HGR.out (gr_trans HG7.out HG78.out)) HT6.out) HC'.out)
    obtain ⟨hwn, hwj, hw6⟩ := HJ.out
    have hw7 := wrj HJN.out HNL2.out
    have hnz : ¬ (n = 0) := Nat.pos_iff_ne_zero.1 HNN.out
    refine wp_region_steady_tail 21 (by kernel_rfl) (by kernel_rfl) ?_
    refine steady_step (fun K hK => ?_); apply steady_op rfl; (focus (intro wx hw; go_simp; exact ⟨rfl, hw⟩)); go_simp; refine hK _ ?_; clear hK K
    refine steady_step (fun K hK => ?_); apply steady_op rfl; (focus (intro wx hw; have hcx := gr_cell (gr_trans (Gr.drew (Gr.refl _)) hw) q1; go_simp; exact ⟨rfl, hw⟩)); go_simp; refine hK _ ?_; clear hK K
    refine steady_step (fun K hK => ?_); apply steady_op rfl; (focus (intro wx hw; go_simp; exact ⟨rfl, hw⟩)); go_simp; refine hK _ ?_; clear hK K
    refine steady_step (fun K hK => ?_); apply steady_op rfl; (focus (intro wx hw; go_simp; exact ⟨rfl, hw⟩)); go_simp; refine hK _ ?_; clear hK K
    refine steady_step (fun K hK => ?_); apply steady_op rfl; (focus (intro wx hw; go_simp; exact ⟨rfl, hw⟩)); go_simp; refine hK _ ?_; clear hK K
    refine steady_step (fun K hK => ?_); apply steady_op rfl; (focus (intro wx hw; have hcx := gr_cell (gr_trans (Gr.drew (Gr.refl _)) hw) e5; go_simp; exact ⟨rfl, hw⟩)); go_simp; refine hK _ ?_; clear hK K
    refine steady_step (fun K hK => ?_); apply steady_op rfl; (focus (intro wx hw; go_simp; exact ⟨rfl, hw⟩)); go_simp; refine hK _ ?_; clear hK K
    refine steady_step (fun K hK => ?_); apply steady_op rfl; (focus (intro wx hw; go_simp; exact ⟨rfl, hw⟩)); go_simp; refine hK _ ?_; clear hK K
    refine steady_step (fun K hK => ?_); apply steady_op rfl; (focus (intro wx hw; go_simp; exact ⟨rfl, hw⟩)); go_simp; refine hK _ ?_; clear hK K
    refine steady_step (fun K hK => ?_); apply steady_op rfl; (focus (intro wx hw; have hcx := gr_cell (gr_trans (Gr.drew (Gr.refl _)) hw) q1; go_simp; exact ⟨rfl, hw⟩)); go_simp; refine hK _ ?_; clear hK K
    refine steady_step (fun K hK => ?_); apply steady_op rfl; (focus (intro wx hw; go_simp; exact ⟨rfl, hw⟩)); go_simp; refine hK _ ?_; clear hK K
    refine steady_step (fun K hK => ?_); apply steady_op rfl; (focus (intro wx hw; go_simp; exact ⟨rfl, hw⟩)); go_simp; refine hK _ ?_; clear hK K
    refine steady_step (fun K hK => ?_); apply steady_op rfl; (focus (intro wx hw; go_simp; exact ⟨rfl, hw⟩)); go_simp; refine hK _ ?_; clear hK K
    refine steady_step (fun K hK => ?_); apply steady_op rfl; (focus (intro wx hw; have hcx := gr_cell (gr_trans (Gr.drew (Gr.refl _)) hw) e5; go_simp; exact ⟨rfl, hw⟩)); go_simp; refine hK _ ?_; clear hK K
    refine steady_step (fun K hK => ?_); apply steady_op rfl; (focus (intro wx hw; go_simp; exact ⟨rfl, hw⟩)); go_simp; refine hK _ ?_; clear hK K
    refine steady_step (fun K hK => ?_); apply steady_op rfl; (focus (intro wx hw; go_simp; exact ⟨rfl, hw⟩)); go_simp; refine hK _ ?_; clear hK K
    refine steady_step (fun K hK => ?_); apply steady_op rfl; (focus (intro wx hw; go_simp; exact ⟨rfl, hw⟩)); go_simp; refine hK _ ?_; clear hK K
    refine steady_step (fun K hK => ?_); apply steady_op rfl; (focus (intro wx hw; go_simp; exact ⟨rfl, hw⟩)); go_simp; refine hK _ ?_; clear hK K
    refine steady_step (fun K hK => ?_); apply steady_op rfl; (focus (intro wx hw; go_simp; exact ⟨rfl, hw⟩)); go_simp; refine hK _ ?_; clear hK K
    refine steady_step (fun K hK => ?_); apply steady_op rfl; (focus (intro wx hw; go_simp; exact ⟨rfl, hw⟩)); go_simp; refine hK _ ?_; clear hK K
    refine steady_step (fun K hK => ?_)
    refine steady_load_cells rfl 47 _ rfl g7 (k * 3) rfl (ceA c') _ ((fun j u hu => gr_cell (Gr.drew (Gr.refl _)) (HT8.out j u hu))) Try.underlying47 rfl infoCe ?_
    go_simp; refine hK _ ?_; clear hK K
    refine steady_nil ?_
    intro w9 hg9
    have HG89 := Lib.hid (gr_trans (Gr.drew (Gr.refl _)) hg9)
    clear hg9 q0 q1 e5 hwn hwj hnz
    try simp only [hw7]
    clear hw6 hw7
    have hoc9 := owns_gr HOC8.out HG89.out
    have HOF9 := Lib.hid (owns_gr HOF8.out HG89.out)
    have HOC9 := Lib.hid hoc9
    have hth : w9.there gk (j * 3) 3 := there_part (owns_there hoc9) (Nat.zero_le _) (j33 HJN.out)
    clear hoc9
    go_upto_region 12 with (refine wpList_store_mid rfl 47 _ _ rfl gk (j * 3) (ceA c') rfl rfl hth infoCe (by kernel_rfl) ?_)
    have hsep := Sep.setCells (ex := fun q => q = gk) rfl (ceA c').toList (j * 3) w9
    have hcj : ∃ c, l[j]? = some c := ⟨_, List.getElem?_eq_getElem (by rw [HN.out]; exact HJN.out)⟩
    obtain ⟨c0, hc0⟩ := hcj
    have HOC10 := Lib.hid (own_cell3 HOC9.out hc0 c')
    have HOF10 := Lib.hid (hsep.owns HOF9.out (fun q hq e => own_two HOF9.out HOC9.out (by decide) gk rfl (by rw [hq]; exact congrArg some e)))
    have HG710 := Lib.hid (Sep.toGr (gr_trans HG7.out (gr_trans HG78.out HG89.out)) hsep (fun q hq => by have e' : q = gk := hq; rw [e']; exact (HOC9.out.lt gk rfl).1))
    have HBQ10 := Lib.hid (hsep.at_ (fun e : gq = gk => own_ty HOC9.out (gr_block HG89.out HBQ.out) (by decide) (by rw [← e]; rfl)) (gr_block HG89.out HBQ.out))
    clear hsep hth
    generalize w9.setCells gk (j * 3) (ceA c').toList = w10 at *
    have hll : (l.set j c').length = n := by rw [List.length_set]; exact HN.out
    have hcb : ∀ c ∈ l.set j c', CeB c := fun c hc => by
     rcases List.mem_or_eq_of_mem_set hc with h1 | rfl
     ·exact HFR.out.ces c h1
     ·exact tl_ok HNL.out HNSL.out HNL2.out HSB.out c (List.mem_of_getElem? HC'.out)
    have hfl := flat_cong fuA (a := ⟨⟨host, sig, inn, out, loc, l⟩, .slice (some ⟨gk, 0, none⟩) n ck', mv⟩) (b := ⟨⟨host, sig, inn, out, loc, l.set j c'⟩, .slice (some ⟨gk, 0, none⟩) n ck', mv⟩) rfl P.fs i
    have hpr := prR_own (HP.out wr HGW.out) HG710.out HGF.out ⟨host, sig, inn, out, loc, l.set j c'⟩ (by rw [HNF.out]; exact hfl ▸ HOF10.out) (by dsimp only; rw [hll]; exact HOC10.out) (by dsimp only; rw [hll]; exact le20 HNL2.out) HFR.out.host HFR.out.sig HFR.out.inn HFR.out.out HFR.out.loc hcb
    have hno := ref_cell (ss := P.ss) (cv := .slice (some ⟨gk, 0, none⟩) n ck') (mv := mv) HPL.out (f := ⟨host, sig, inn, out, loc, l.set j c'⟩) (j := j) (c := c') (by dsimp only; rw [List.getElem?_set, if_pos rfl, if_pos (by rw [HN.out]; exact HJN.out)]) (ref_tl (P := ⟨P.ss, P.fs.set i ⟨⟨host, sig, inn, out, loc, l.set j c'⟩, .slice (some ⟨gk, 0, none⟩) n ck', mv⟩⟩) (by show (P.fs.set i _).length = nf; rw [List.length_set, HNF.out]) HNS.out hll HSW.out.2 _ k c' HC'.out)
    have HPR := Lib.hid hpr
    have HNO := Lib.hid hno
    clear hll hcb hfl hpr hno hc0
    obtain ⟨q0, q1⟩ := cells2 HBQ10.out
    go_wp2_with fail
    clear q0 q1
    refine (check_any HPR.out).mono ?_
    rintro e w12 ⟨rfl, hg12⟩
    rw [chk_no HNO.out]
    have HG12 := Lib.hid hg12
    clear hg12
    go_wp2
    exact ⟨⟨k + 1, HLT.out, by first | rfl | (rw [TI]; rfl), gr_trans HGR.out (gr_trans HG710.out HG12.out)⟩, by first | exact meas_lt HLT.out | (rw [TI]; exact meas_lt HLT.out)⟩
   ·have HX : k = 6 ∨ (k < 6 ∧ n = 0) := k6_or hk hlt
    clear hlt
    have HW6 := Lib.hid HGW.out
    rcases HX with hx6 | ⟨hk6, hx0⟩
    ·have hki : ¬ ((k : Int) < 6) := by rw [hx6]; decide
     clear hk hx6
     as_aux_lemma =>
      go_upto_region 14 with fail
      try clear q0 q1 d5 hii
      try clear hki
      try clear hn0
      try clear hn1
      try clear hn2
      try clear h66
      go_wp2_with fail
      go_loopw [10] (fun i0 wy => ∃ k2 : Nat, k2 ≤ 6 ∧ i0 = .int .i64 k2 ∧ Gr w6 wy) (fun i0 _ => 6 - (intOf i0).toNat)
      case atStart => exact ⟨0, Nat.zero_le _, rfl, HGR.out⟩
      case round =>
       obtain ⟨k2, hk2, rfl, hgr2⟩ := hrel
       have HGR2 := Lib.hid hgr2
       have HGW2 := Lib.hid (gr_trans HG6.out hgr2)
       clear hgr2
       obtain ⟨q0, q1⟩ := cells2 (gr_block HGR2.out HB6.out)
       by_cases hlt : k2 < 6
       ·have HLT := Lib.hid hlt
        have hki : (k2 : Int) < 6 := Int.ofNat_lt.2 hlt
        have TI := wr6 hlt
        have HKC := Lib.hid (k_cases hlt)
        clear hlt hk2
        go_wp2_with fail
        refine (HWA.out wr HGW2.out).mono ?_
        rintro e w7 ⟨fv', cv', rfl, hg7, hof, hoc⟩
        obtain ⟨gf, cf', rfl, _⟩ := own_some hof HNP.out
        obtain ⟨xk, ck', rfl⟩ := own_slice hoc
        have HG7 := Lib.hid hg7
        have HOF := Lib.hid hof
        have HOC := Lib.hid hoc
        clear hg7 hof hoc q0 q1
        go_upto_region 18 with (refine wpList_store_row rfl 34 _ _ rfl w7.heap.size #[.slice xs ns cs, .slice (some ⟨gf, 0, none⟩) nf cf'] rfl rfl 34 #[.slice none 0 0, .slice none 0 0] (heap_alloc_new w7 _) infoPr rfl (by kernel_rfl) ?_)
        have hsep := Sep.setRow (ex := fun q => q = w7.heap.size) (w7.alloc (.cells #[.slice none 0 0, .slice none 0 0] 34)) rfl #[.slice xs ns cs, .slice (some ⟨gf, 0, none⟩) nf cf']
        have hgr2 := Sep.toGr ((Gr.refl w7).alloc #[.slice none 0 0, .slice none 0 0] 34) hsep (fun q hq => Nat.le_of_eq (Eq.symm hq))
        have hbk := setRow_block (c := #[.slice xs ns cs, .slice (some ⟨gf, 0, none⟩) nf cf']) (heap_alloc_new w7 (.cells #[.slice none 0 0, .slice none 0 0] 34))
        have HG78 := Lib.hid hgr2
        have HBQ := Lib.hid hbk
        clear hsep hgr2 hbk
        generalize (w7.alloc (.cells #[.slice none 0 0, .slice none 0 0] 34)).setRow w7.heap.size #[.slice xs ns cs, .slice (some ⟨gf, 0, none⟩) nf cf'] = w8 at *
        generalize hgq : w7.heap.size = gq at *
        have HOF8 := Lib.hid (owns_gr HOF.out HG78.out)
        have HOC8 := Lib.hid (owns_gr HOC.out HG78.out)
        obtain ⟨q0, q1⟩ := cells2 HBQ.out
        have HG28 := Lib.hid (gr_trans HGR2.out (gr_trans HG7.out HG78.out))
        obtain ⟨p0, p1⟩ := cells2 (gr_block HG28.out HB6.out)
        have hii : (i : Int) < (nf : Int) := Int.ofNat_lt.2 HIN.out
        clear hki
        rcases HKC.out with hk2 | hk2 | hk2 | hk2 | hk2 | hk2 <;> (subst hk2; clear HKC)
        ·as_aux_lemma =>
         have hc0 : w8.cell? ⟨gf, i * 7 + 2, none⟩ = some (.int .i64 inn) := (HOF8.out.cellAt (i * 7 + 2) (i77 HIN.out (by decide))).trans (by rw [flat_at fuA 7 (fun _ => rfl) _ i _ 2 (set_at HPL.out _) (by decide)]; rfl)
         have fz : w8.frozen? ⟨gf, i * 7 + 2, none⟩ = false := HOF8.out.frozenAt (i * 7 + 2)
         have hof9 := own_field HOF8.out HPL.out 2 (by decide) (.int .i64 (inn + 1)) ⟨⟨host, sig, inn + 1, out, loc, l⟩, .slice xk n ck', mv⟩ rfl
         try rw [Nat.add_zero] at hof9
         have HOF9 := Lib.hid hof9
         clear hof9
         obtain ⟨t1, t2⟩ := wri1 HWL.out.2.2.2.2.1 HWL.out.2.2.2.2.2.1
         go_upto_region 33 with fail
         clear hc0 fz q0 q1 p0 p1
         have hsep := Sep.setCell (ex := fun q => q = gf) w8 (p := ⟨gf, i * 7 + 2, none⟩) rfl (.int .i64 (inn + 1))
         have HOC9 := Lib.hid (hsep.owns HOC8.out (fun q hq e => own_two HOC8.out HOF8.out (by decide) gf rfl (by rw [hq]; exact congrArg some e)))
         have HG79 := Lib.hid (Sep.toGr (gr_trans HG7.out HG78.out) hsep (fun q hq => by have e' : q = gf := hq; rw [e']; exact (HOF8.out.lt gf rfl).1))
         have HBQ9 := Lib.hid (hsep.at_ (fun e : gq = gf => own_ty HOF8.out HBQ.out (by decide) (by rw [← e]; rfl)) HBQ.out)
         clear hsep
         generalize w8.setCell ⟨gf, i * 7 + 2, none⟩ (.int .i64 (inn + 1)) = w9 at *
         have HPR := Lib.hid (prR_own (HP.out wr HGW2.out) HG79.out HGF.out ⟨host, sig, inn + 1, out, loc, l⟩ (by rw [HNF.out]; exact HOF9.out) (by dsimp only; rw [HN.out]; exact HOC9.out) (by dsimp only; rw [HN.out]; exact le20 HNL2.out) HFR.out.host HFR.out.sig (bd_in1 HWL.out.2.2.2.2.1 HWL.out.2.2.2.2.2.1) HFR.out.out HFR.out.loc HFR.out.ces)
         have HNO := Lib.hid (ref_whole (ss := P.ss) (cv := .slice xk n ck') (mv := mv) HPL.out (f := ⟨host, sig, inn + 1, out, loc, l⟩) (whl_inn (f := ⟨host, sig, inn, out, loc, l⟩) HWL.out.2.2.2.1 _ rfl))
         obtain ⟨q0, q1⟩ := cells2 HBQ9.out
         go_wp2_with fail
         clear q0 q1
         refine (check_any HPR.out).mono ?_
         rintro e w12 ⟨rfl, hg12⟩
         rw [chk_no HNO.out]
         have HG12 := Lib.hid hg12
         clear hg12
         go_wp2
         exact ⟨⟨0 + 1, by decide, by first | rfl | (rw [TI]; rfl), gr_trans HGR2.out (gr_trans HG79.out HG12.out)⟩, by first | exact meas_lt HLT.out | (rw [TI]; exact meas_lt HLT.out) | (simp [intOf])⟩
        ·as_aux_lemma =>
         have hc0 : w8.cell? ⟨gf, i * 7 + 1, none⟩ = some (.int .i64 sig) := (HOF8.out.cellAt (i * 7 + 1) (i77 HIN.out (by decide))).trans (by rw [flat_at fuA 7 (fun _ => rfl) _ i _ 1 (set_at HPL.out _) (by decide)]; rfl)
         have fz : w8.frozen? ⟨gf, i * 7 + 1, none⟩ = false := HOF8.out.frozenAt (i * 7 + 1)
         have hof9 := own_field HOF8.out HPL.out 1 (by decide) (.int .i64 (ns : Nat)) ⟨⟨host, (ns : Nat), inn, out, loc, l⟩, .slice xk n ck', mv⟩ rfl
         try rw [Nat.add_zero] at hof9
         have HOF9 := Lib.hid hof9
         clear hof9
         go_upto_region 33 with fail
         clear hc0 fz q0 q1 p0 p1
         have hsep := Sep.setCell (ex := fun q => q = gf) w8 (p := ⟨gf, i * 7 + 1, none⟩) rfl (.int .i64 (ns : Nat))
         have HOC9 := Lib.hid (hsep.owns HOC8.out (fun q hq e => own_two HOC8.out HOF8.out (by decide) gf rfl (by rw [hq]; exact congrArg some e)))
         have HG79 := Lib.hid (Sep.toGr (gr_trans HG7.out HG78.out) hsep (fun q hq => by have e' : q = gf := hq; rw [e']; exact (HOF8.out.lt gf rfl).1))
         have HBQ9 := Lib.hid (hsep.at_ (fun e : gq = gf => own_ty HOF8.out HBQ.out (by decide) (by rw [← e]; rfl)) HBQ.out)
         clear hsep
         generalize w8.setCell ⟨gf, i * 7 + 1, none⟩ (.int .i64 (ns : Nat)) = w9 at *
         have HPR := Lib.hid (prR_own (HP.out wr HGW2.out) HG79.out HGF.out ⟨host, (ns : Nat), inn, out, loc, l⟩ (by rw [HNF.out]; exact HOF9.out) (by dsimp only; rw [HN.out]; exact HOC9.out) (by dsimp only; rw [HN.out]; exact le20 HNL2.out) HFR.out.host (bd_nat HNSL.out) HFR.out.inn HFR.out.out HFR.out.loc HFR.out.ces)
         have HNO := Lib.hid (ref_whole (ss := P.ss) (cv := .slice xk n ck') (mv := mv) HPL.out (f := ⟨host, (ns : Nat), inn, out, loc, l⟩) (whl_sg (f := ⟨host, sig, inn, out, loc, l⟩) (n := ns) _ HNS.out))
         obtain ⟨q0, q1⟩ := cells2 HBQ9.out
         go_wp2_with fail
         clear q0 q1
         refine (check_any HPR.out).mono ?_
         rintro e w12 ⟨rfl, hg12⟩
         rw [chk_no HNO.out]
         have HG12 := Lib.hid hg12
         clear hg12
         go_wp2
         exact ⟨⟨1 + 1, by decide, by first | rfl | (rw [TI]; rfl), gr_trans HGR2.out (gr_trans HG79.out HG12.out)⟩, by first | exact meas_lt HLT.out | (rw [TI]; exact meas_lt HLT.out) | (simp [intOf])⟩
        ·as_aux_lemma =>
         have hc0 : w8.cell? ⟨gf, i * 7 + 4, none⟩ = some (.int .i64 loc) := (HOF8.out.cellAt (i * 7 + 4) (i77 HIN.out (by decide))).trans (by rw [flat_at fuA 7 (fun _ => rfl) _ i _ 4 (set_at HPL.out _) (by decide)]; rfl)
         have fz : w8.frozen? ⟨gf, i * 7 + 4, none⟩ = false := HOF8.out.frozenAt (i * 7 + 4)
         have hof9 := own_field HOF8.out HPL.out 4 (by decide) (.int .i64 4097) ⟨⟨host, sig, inn, out, 4097, l⟩, .slice xk n ck', mv⟩ rfl
         try rw [Nat.add_zero] at hof9
         have HOF9 := Lib.hid hof9
         clear hof9
         go_upto_region 33 with fail
         clear hc0 fz q0 q1 p0 p1
         have hsep := Sep.setCell (ex := fun q => q = gf) w8 (p := ⟨gf, i * 7 + 4, none⟩) rfl (.int .i64 4097)
         have HOC9 := Lib.hid (hsep.owns HOC8.out (fun q hq e => own_two HOC8.out HOF8.out (by decide) gf rfl (by rw [hq]; exact congrArg some e)))
         have HG79 := Lib.hid (Sep.toGr (gr_trans HG7.out HG78.out) hsep (fun q hq => by have e' : q = gf := hq; rw [e']; exact (HOF8.out.lt gf rfl).1))
         have HBQ9 := Lib.hid (hsep.at_ (fun e : gq = gf => own_ty HOF8.out HBQ.out (by decide) (by rw [← e]; rfl)) HBQ.out)
         clear hsep
         generalize w8.setCell ⟨gf, i * 7 + 4, none⟩ (.int .i64 4097) = w9 at *
         have HPR := Lib.hid (prR_own (HP.out wr HGW2.out) HG79.out HGF.out ⟨host, sig, inn, out, 4097, l⟩ (by rw [HNF.out]; exact HOF9.out) (by dsimp only; rw [HN.out]; exact HOC9.out) (by dsimp only; rw [HN.out]; exact le20 HNL2.out) HFR.out.host HFR.out.sig HFR.out.inn HFR.out.out bd_4097 HFR.out.ces)
         have HNO := Lib.hid (ref_whole (ss := P.ss) (cv := .slice xk n ck') (mv := mv) HPL.out (f := ⟨host, sig, inn, out, 4097, l⟩) (whl_loc (f := ⟨host, sig, inn, out, loc, l⟩) _))
         obtain ⟨q0, q1⟩ := cells2 HBQ9.out
         go_wp2_with fail
         clear q0 q1
         refine (check_any HPR.out).mono ?_
         rintro e w12 ⟨rfl, hg12⟩
         rw [chk_no HNO.out]
         have HG12 := Lib.hid hg12
         clear hg12
         go_wp2
         exact ⟨⟨2 + 1, by decide, by first | rfl | (rw [TI]; rfl), gr_trans HGR2.out (gr_trans HG79.out HG12.out)⟩, by first | exact meas_lt HLT.out | (rw [TI]; exact meas_lt HLT.out) | (simp [intOf])⟩
        ·as_aux_lemma =>
         have hc0 : w8.cell? ⟨gf, i * 7, none⟩ = some (.int .i64 host) := (HOF8.out.cellAt (i * 7 + 0) (i77 HIN.out (by decide))).trans (by rw [flat_at fuA 7 (fun _ => rfl) _ i _ 0 (set_at HPL.out _) (by decide)]; rfl)
         have fz : w8.frozen? ⟨gf, i * 7, none⟩ = false := HOF8.out.frozenAt (i * 7 + 0)
         have hof9 := own_field HOF8.out HPL.out 0 (by decide) (.int .i64 (-2)) ⟨⟨-2, sig, inn, out, loc, l⟩, .slice xk n ck', mv⟩ rfl
         try rw [Nat.add_zero] at hof9
         have HOF9 := Lib.hid hof9
         clear hof9
         go_upto_region 33 with fail
         clear hc0 fz q0 q1 p0 p1
         have hsep := Sep.setCell (ex := fun q => q = gf) w8 (p := ⟨gf, i * 7, none⟩) rfl (.int .i64 (-2))
         have HOC9 := Lib.hid (hsep.owns HOC8.out (fun q hq e => own_two HOC8.out HOF8.out (by decide) gf rfl (by rw [hq]; exact congrArg some e)))
         have HG79 := Lib.hid (Sep.toGr (gr_trans HG7.out HG78.out) hsep (fun q hq => by have e' : q = gf := hq; rw [e']; exact (HOF8.out.lt gf rfl).1))
         have HBQ9 := Lib.hid (hsep.at_ (fun e : gq = gf => own_ty HOF8.out HBQ.out (by decide) (by rw [← e]; rfl)) HBQ.out)
         clear hsep
         generalize w8.setCell ⟨gf, i * 7, none⟩ (.int .i64 (-2)) = w9 at *
         have HPR := Lib.hid (prR_own (HP.out wr HGW2.out) HG79.out HGF.out ⟨-2, sig, inn, out, loc, l⟩ (by rw [HNF.out]; exact HOF9.out) (by dsimp only; rw [HN.out]; exact HOC9.out) (by dsimp only; rw [HN.out]; exact le20 HNL2.out) bd_m2 HFR.out.sig HFR.out.inn HFR.out.out HFR.out.loc HFR.out.ces)
         have HNO := Lib.hid (ref_whole (ss := P.ss) (cv := .slice xk n ck') (mv := mv) HPL.out (f := ⟨-2, sig, inn, out, loc, l⟩) (whl_host2 (f := ⟨host, sig, inn, out, loc, l⟩) _))
         obtain ⟨q0, q1⟩ := cells2 HBQ9.out
         go_wp2_with fail
         clear q0 q1
         refine (check_any HPR.out).mono ?_
         rintro e w12 ⟨rfl, hg12⟩
         rw [chk_no HNO.out]
         have HG12 := Lib.hid hg12
         clear hg12
         go_wp2
         exact ⟨⟨3 + 1, by decide, by first | rfl | (rw [TI]; rfl), gr_trans HGR2.out (gr_trans HG79.out HG12.out)⟩, by first | exact meas_lt HLT.out | (rw [TI]; exact meas_lt HLT.out) | (simp [intOf])⟩
        ·as_aux_lemma =>
         obtain ⟨iS, hi, hz0, hz1, hz2⟩ := info_parts infoSz
         have HIS := Lib.hid hi
         have HZ0S := Lib.hid hz0
         have HZ1S := Lib.hid hz1
         have HZ2S := Lib.hid hz2
         clear hi hz0 hz1 hz2
         have HFLN := Lib.hid (show (flat siA P.ss).length = ns * 2 by rw [flat_len siA 2 (fun _ => rfl), HNS.out])
         have HSS := Lib.hid (fun wx (hg : Gr wr wx) => src_of_rw (rwR_gr (show RwR wr (.slice xs ns cs) ns (flat siA P.ss) from by have h1 := (HP.out wr HGW2.out).ss; rw [HNS.out] at h1; exact h1) hg) (by rw [HFLN.out]; exact Nat.mul_pos (pos_of HWL.out.2.1 (by have h1 := HWL.out.2.2.1; rw [HNS.out] at h1; exact h1)) (by decide)))
         have HSONE := Lib.hid (flat_one siA P.ss (fun s hs => si_one ((HP.out wr HGW2.out).sis s hs)))
         go_upto_region 28 with fail
         have p0' := gr_cell ((Gr.refl w8).alloc #[] 53) p0
         go_upto_region 29 with (first | (at_builtin; refine wpList_append_at rfl _ _ 31 rfl w8.heap.size 53 iS (.agg #[.slice none 0 0, .slice none 0 0]) 2 48 Try.underlying31 HIS.out HZ0S.out HZ1S.out HZ2S.out rfl (by decide) (.slice (some ⟨w8.heap.size, 0, none⟩) 0 0) 0 [] rfl (World.ownsRow_lit (base := w8.heap.size) (e := 53) (size := 2) w8 #[] 0 (Nat.le_refl _) (by decide) rfl) (.slice xs ns cs) ns (flat siA P.ss) rfl (HSS.out _ (gr_trans (gr_trans HG7.out HG78.out) ((Gr.refl w8).alloc _ _))) HFLN.out HSONE.out (sg_max HNSL.out).1 (sg_max HNSL.out).2.1 ((Gr.refl w8).alloc #[] 53).size ?_))
         intro v9 w9 hown hgb hbk
         obtain ⟨x9, c9, rfl⟩ := own_slice hown
         have HG89 := Lib.hid (Sep.toGr ((Gr.refl w8).alloc #[] 53) (Sep.grown (ex := fun q => q = w8.heap.size) hgb (fun q hq => (Option.some.inj hq).symm)) (fun q hq => Nat.le_of_eq (Eq.symm hq)))
         have HOW9 := Lib.hid hown
         have HX2 := Lib.hid (box2 w9 #[.int .i64 123] #[.slice (some ⟨w9.heap.size, 0, none⟩) 1 1, .slice none 0 0] 3 53)
         clear hown hgb hbk p0 p1 p0'
         go_upto_region 29 with (first | (refine wpList_build_at rfl 53 _ rfl #[.slice (some ⟨w9.heap.size, 0, none⟩) 1 1, .slice none 0 0] (by kernel_rfl) ?_) | (at_builtin; refine wpList_append_at rfl _ _ 31 rfl w8.heap.size 53 iS (.agg #[.slice none 0 0, .slice none 0 0]) 2 48 Try.underlying31 HIS.out HZ0S.out HZ1S.out HZ2S.out rfl (by decide) (.slice x9 ns c9) ns (flat siA P.ss) rfl (World.ownsRow.alloc (World.ownsRow.alloc HOW9.out _) _) (.slice (some ⟨w9.heap.size + 1, 0, none⟩) 1 1) 1 [.slice (some ⟨w9.heap.size, 0, none⟩) 1 1, .slice none 0 0] rfl (src_row HX2.out.2.2 1 1) rfl ((List.all_eq_true (p := fun u : Value => u.oneCell')).1 rfl) (sg_max HNSL.out).2.2.1 (sg_max HNSL.out).2.2.2.1 (gr_trans HG89.out HX2.out.1).size ?_))
         intro v11 w11 hown2 hgb2 hbk2
         obtain ⟨x11, c11, rfl⟩ := own_slice hown2
         have hpre : Sep (fun q => (Value.slice x9 ns c9).ownBlock = some q) w9 w11 := Sep.trans (Sep.of_gr HX2.out.1) (Sep.grown hgb2 (fun q hq => hq))
         have HG811 := Lib.hid (Sep.toGr HG89.out hpre (fun q hq => (HOW9.out.lt q hq).1))
         have HB123 := Lib.hid ((Sep.grown (ex := fun q => (Value.slice x9 ns c9).ownBlock = some q) hgb2 (fun q hq => hq)).at_ (fun e => absurd (HOW9.out.lt _ e).2 (Nat.lt_irrefl _)) HX2.out.2.1)
         have HOS := Lib.hid hown2
         clear hpre hown2 hgb2 hbk2 q0 q1
         have fz := froz (gr_block HG811.out HBQ.out) 0
         obtain ⟨q0, q1⟩ := cells2 (gr_block HG811.out HBQ.out)
         go_upto_region 33 with fail
         clear fz q0 q1
         have hsep := Sep.setCell (ex := fun q => q = gq) w11 (p := ⟨gq, 0, none⟩) rfl (.slice x11 (ns + 1) c11)
         have HBQ12 := Lib.hid (show (w11.setCell ⟨gq, 0, none⟩ (.slice x11 (ns + 1) c11)).heap[gq]? = some (.cells #[.slice x11 (ns + 1) c11, .slice (some ⟨gf, 0, none⟩) nf cf'] 34 (0, 0)) from heap_setCell_same w11 gq 0 _ _ _ (gr_block HG811.out HBQ.out))
         have HOF12 := Lib.hid (hsep.owns (owns_gr HOF8.out HG811.out) (fun q hq e => own_ty (owns_gr HOF8.out HG811.out) (gr_block HG811.out HBQ.out) (by decide) (by rw [hq]; exact congrArg some e)))
         have HOC12 := Lib.hid (hsep.owns (owns_gr HOC8.out HG811.out) (fun q hq e => own_ty (owns_gr HOC8.out HG811.out) (gr_block HG811.out HBQ.out) (by decide) (by rw [hq]; exact congrArg some e)))
         have HOS12 := Lib.hid (hsep.owns HOS.out (fun q hq e => own_ty HOS.out (gr_block HG811.out HBQ.out) (by decide) (by rw [hq]; exact congrArg some e)))
         have HB12 := Lib.hid (hsep.at_ (fun e : w9.heap.size = gq => ne3 (Array.getElem?_eq_some_iff.1 HBQ.out).1 HG89.out.size e.symm) HB123.out)
         have HG79 := Lib.hid (Sep.toGr (gr_trans (gr_trans HG7.out HG78.out) HG811.out) hsep (fun q hq => by rw [show q = gq from hq, ← hgq]; exact HG7.out.size))
         clear hsep
         generalize w11.setCell ⟨gq, 0, none⟩ (.slice x11 (ns + 1) c11) = w10 at *
         have HPR := Lib.hid (prR_app (prR_own (HP.out wr HGW2.out) HG79.out HGF.out ⟨host, sig, inn, out, loc, l⟩ (by rw [HNF.out]; exact HOF12.out) (by dsimp only; rw [HN.out]; exact HOC12.out) (by dsimp only; rw [HN.out]; exact le20 HNL2.out) HFR.out.host HFR.out.sig HFR.out.inn HFR.out.out HFR.out.loc HFR.out.ces) HNS.out HOS12.out HB12.out (sg_max HNSL.out).2.2.2.2)
         have HNO := Lib.hid (ref_sigs (ss := P.ss) (fs := P.fs.set i ⟨⟨host, sig, inn, out, loc, l⟩, .slice xk n ck', mv⟩) (iv := .slice (some ⟨w9.heap.size, 0, none⟩) 1 1) (ov := .slice none 0 0))
         obtain ⟨q0, q1⟩ := cells2 HBQ12.out
         go_wp2_with fail
         clear q0 q1
         refine (check_any HPR.out).mono ?_
         rintro e w12 ⟨rfl, hg12⟩
         rw [chk_no HNO.out]
         have HG12 := Lib.hid hg12
         clear hg12
         go_wp2
         exact ⟨⟨4 + 1, by decide, by first | rfl | (rw [TI]; rfl), gr_trans HGR2.out (gr_trans HG79.out HG12.out)⟩, by first | exact meas_lt HLT.out | (rw [TI]; exact meas_lt HLT.out) | (simp [intOf])⟩
        ·as_aux_lemma =>
         rcases hostc HWL.out.1 with hh | hh
         ·have hge : ¬ ((0 : Int) ≤ host) := by rw [hh]; decide
          have hc0 : w8.cell? ⟨gf, i * 7, none⟩ = some (.int .i64 host) := (HOF8.out.cellAt (i * 7 + 0) (i77 HIN.out (by decide))).trans (by rw [flat_at fuA 7 (fun _ => rfl) _ i _ 0 (set_at HPL.out _) (by decide)]; rfl)
          have fz : w8.frozen? ⟨gf, i * 7, none⟩ = false := HOF8.out.frozenAt (i * 7 + 0)
          have hof9 := own_field HOF8.out HPL.out 0 (by decide) (.int .i64 0) ⟨⟨0, sig, inn, out, loc, l⟩, .slice xk n ck', mv⟩ rfl
          try rw [Nat.add_zero] at hof9
          have HOF9 := Lib.hid hof9
          clear hof9
          go_upto_region 31 with fail
          clear hc0 fz q0 q1 p0 p1
          have hsep := Sep.setCell (ex := fun q => q = gf) w8 (p := ⟨gf, i * 7, none⟩) rfl (.int .i64 0)
          have HOC9 := Lib.hid (hsep.owns HOC8.out (fun q hq e => own_two HOC8.out HOF8.out (by decide) gf rfl (by rw [hq]; exact congrArg some e)))
          have HG79 := Lib.hid (Sep.toGr (gr_trans HG7.out HG78.out) hsep (fun q hq => by have e' : q = gf := hq; rw [e']; exact (HOF8.out.lt gf rfl).1))
          have HBQ9 := Lib.hid (hsep.at_ (fun e : gq = gf => own_ty HOF8.out HBQ.out (by decide) (by rw [← e]; rfl)) HBQ.out)
          clear hsep
          generalize w8.setCell ⟨gf, i * 7, none⟩ (.int .i64 0) = w9 at *
          obtain ⟨p0, p1⟩ := cells2 (gr_block (gr_trans HGR2.out HG79.out) HB6.out)
          have dh : w9.cell? ⟨b, off + i * 7, none⟩ = some (.int .i64 host) := HD.out w9 (gr_trans HGW2.out HG79.out) 0 _ rfl
          go_upto_region 33 with fail
          clear p0 p1 dh hge
          have HPR := Lib.hid (prR_own (HP.out wr HGW2.out) HG79.out HGF.out ⟨0, sig, inn, out, loc, l⟩ (by rw [HNF.out]; exact HOF9.out) (by dsimp only; rw [HN.out]; exact HOC9.out) (by dsimp only; rw [HN.out]; exact le20 HNL2.out) bd0 HFR.out.sig HFR.out.inn HFR.out.out HFR.out.loc HFR.out.ces)
          have HNO := Lib.hid (ref_whole (ss := P.ss) (cv := .slice xk n ck') (mv := mv) HPL.out (f := ⟨0, sig, inn, out, loc, l⟩) (whl_hx (f := ⟨host, sig, inn, out, loc, l⟩) _ (host_a HWL.out.2.2.2.2.2.2.2.2 hh)))
          obtain ⟨q0, q1⟩ := cells2 HBQ9.out
          go_wp2_with fail
          clear q0 q1
          refine (check_any HPR.out).mono ?_
          rintro e w12 ⟨rfl, hg12⟩
          rw [chk_no HNO.out]
          have HG12 := Lib.hid hg12
          clear hg12
          go_wp2
          exact ⟨⟨5 + 1, by decide, by first | rfl | (rw [TI]; rfl), gr_trans HGR2.out (gr_trans HG79.out HG12.out)⟩, by first | exact meas_lt HLT.out | (rw [TI]; exact meas_lt HLT.out) | (simp [intOf])⟩
         ·have hge : (0 : Int) ≤ host := hh
          have HHH := Lib.hid hh
          clear hh
          have hc0 : w8.cell? ⟨gf, i * 7, none⟩ = some (.int .i64 host) := (HOF8.out.cellAt (i * 7 + 0) (i77 HIN.out (by decide))).trans (by rw [flat_at fuA 7 (fun _ => rfl) _ i _ 0 (set_at HPL.out _) (by decide)]; rfl)
          have fz : w8.frozen? ⟨gf, i * 7, none⟩ = false := HOF8.out.frozenAt (i * 7 + 0)
          have hof9 := own_field HOF8.out HPL.out 0 (by decide) (.int .i64 0) ⟨⟨0, sig, inn, out, loc, l⟩, .slice xk n ck', mv⟩ rfl
          try rw [Nat.add_zero] at hof9
          have HOF9 := Lib.hid hof9
          clear hof9
          go_upto_region 31 with fail
          clear hc0 fz q0 q1 p0 p1
          have hsep := Sep.setCell (ex := fun q => q = gf) w8 (p := ⟨gf, i * 7, none⟩) rfl (.int .i64 0)
          have HOC9 := Lib.hid (hsep.owns HOC8.out (fun q hq e => own_two HOC8.out HOF8.out (by decide) gf rfl (by rw [hq]; exact congrArg some e)))
          have HG79 := Lib.hid (Sep.toGr (gr_trans HG7.out HG78.out) hsep (fun q hq => by have e' : q = gf := hq; rw [e']; exact (HOF8.out.lt gf rfl).1))
          have HBQ9 := Lib.hid (hsep.at_ (fun e : gq = gf => own_ty HOF8.out HBQ.out (by decide) (by rw [← e]; rfl)) HBQ.out)
          clear hsep
          generalize w8.setCell ⟨gf, i * 7, none⟩ (.int .i64 0) = w9 at *
          obtain ⟨p0, p1⟩ := cells2 (gr_block (gr_trans HGR2.out HG79.out) HB6.out)
          have dh : w9.cell? ⟨b, off + i * 7, none⟩ = some (.int .i64 host) := HD.out w9 (gr_trans HGW2.out HG79.out) 0 _ rfl
          obtain ⟨q0, q1⟩ := cells2 HBQ9.out
          have hc0 : w9.cell? ⟨gf, i * 7, none⟩ = some (.int .i64 0) := (HOF9.out.cellAt (i * 7 + 0) (i77 HIN.out (by decide))).trans (by rw [flat_at fuA 7 (fun _ => rfl) _ i _ 0 (set_at HPL.out _) (by decide)]; rfl)
          have fz : w9.frozen? ⟨gf, i * 7, none⟩ = false := HOF9.out.frozenAt (i * 7 + 0)
          have hof8c := own_field HOF9.out HPL.out 0 (by decide) (.int .i64 (-1)) ⟨⟨-1, sig, inn, out, loc, l⟩, .slice xk n ck', mv⟩ rfl
          try rw [Nat.add_zero] at hof8c
          have HOF8c := Lib.hid hof8c
          clear hof8c
          go_upto_region 33 with fail
          clear hc0 fz q0 q1 p0 p1 dh hge
          have hsep := Sep.setCell (ex := fun q => q = gf) w9 (p := ⟨gf, i * 7, none⟩) rfl (.int .i64 (-1))
          have HOC8c := Lib.hid (hsep.owns HOC9.out (fun q hq e => own_two HOC9.out HOF9.out (by decide) gf rfl (by rw [hq]; exact congrArg some e)))
          have HG8c := Lib.hid (Sep.toGr HG79.out hsep (fun q hq => by have e' : q = gf := hq; rw [e']; exact (HOF9.out.lt gf rfl).1))
          have HBQ8c := Lib.hid (hsep.at_ (fun e : gq = gf => own_ty HOF9.out HBQ9.out (by decide) (by rw [← e]; rfl)) HBQ9.out)
          clear hsep
          generalize w9.setCell ⟨gf, i * 7, none⟩ (.int .i64 (-1)) = w11 at *
          have HPR := Lib.hid (prR_own (HP.out wr HGW2.out) HG8c.out HGF.out ⟨-1, sig, inn, out, loc, l⟩ (by rw [HNF.out]; exact HOF8c.out) (by dsimp only; rw [HN.out]; exact HOC8c.out) (by dsimp only; rw [HN.out]; exact le20 HNL2.out) bdm HFR.out.sig HFR.out.inn HFR.out.out HFR.out.loc HFR.out.ces)
          have HNO := Lib.hid (ref_whole (ss := P.ss) (cv := .slice xk n ck') (mv := mv) HPL.out (f := ⟨-1, sig, inn, out, loc, l⟩) (whl_hx (f := ⟨host, sig, inn, out, loc, l⟩) _ (host_b HWL.out.2.2.2.2.2.2.2.2 HHH.out)))
          obtain ⟨q0, q1⟩ := cells2 HBQ8c.out
          go_wp2_with fail
          clear q0 q1
          refine (check_any HPR.out).mono ?_
          rintro e w12 ⟨rfl, hg12⟩
          rw [chk_no HNO.out]
          have HG12 := Lib.hid hg12
          clear hg12
          go_wp2
          exact ⟨⟨5 + 1, by decide, by first | rfl | (rw [TI]; rfl), gr_trans HGR2.out (gr_trans HG8c.out HG12.out)⟩, by first | exact meas_lt HLT.out | (rw [TI]; exact meas_lt HLT.out) | (simp [intOf])⟩
       ·obtain rfl : k2 = 6 := Nat.le_antisymm hk2 (Nat.le_of_not_lt hlt)
        have h66 : ¬ (((6 : Nat) : Int) < 6) := by decide
        clear hlt hk2
        go_upto_region 35 with fail
        go_wp2_with fail
        refine (HCK.out _ HGW2.out).mono ?_
        rintro e w12 ⟨rfl, hg12⟩
        have HG12 := Lib.hid (gr_trans HGW2.out hg12)
        clear hg12 q0 q1 h66
        go_wp2
        go_ret
        exact ⟨rfl, HG12.out⟩
    ·have hn0 : ¬ ((0 : Int) < (n : Int)) := by rw [hx0]; decide
     have hn1 : ¬ (0 < n) := by rw [hx0]; decide
     have hn2 : decide (0 < n) = false := decide_eq_false hn1
     obtain ⟨q0, q1⟩ := cells2 (gr_block HGR.out HB6.out)
     have d5 := HD.out wr HGW.out 5 _ rfl
     have hii : (i : Int) < (nf : Int) := Int.ofNat_lt.2 HIN.out
     have hki : (k : Int) < 6 := Int.ofNat_lt.2 hk6
     clear hk hk6 hx0
     as_aux_lemma =>
      go_upto_region 14 with fail
      try clear q0 q1 d5 hii
      try clear hki
      try clear hn0
      try clear hn1
      try clear hn2
      try clear h66
      go_wp2_with fail
      go_loopw [10] (fun i0 wy => ∃ k2 : Nat, k2 ≤ 6 ∧ i0 = .int .i64 k2 ∧ Gr w6 wy) (fun i0 _ => 6 - (intOf i0).toNat)
      case atStart => exact ⟨0, Nat.zero_le _, rfl, HGR.out⟩
      case round =>
       obtain ⟨k2, hk2, rfl, hgr2⟩ := hrel
       have HGR2 := Lib.hid hgr2
       have HGW2 := Lib.hid (gr_trans HG6.out hgr2)
       clear hgr2
       obtain ⟨q0, q1⟩ := cells2 (gr_block HGR2.out HB6.out)
       by_cases hlt : k2 < 6
       ·have HLT := Lib.hid hlt
        have hki : (k2 : Int) < 6 := Int.ofNat_lt.2 hlt
        have TI := wr6 hlt
        have HKC := Lib.hid (k_cases hlt)
        clear hlt hk2
        go_wp2_with fail
        refine (HWA.out wr HGW2.out).mono ?_
        rintro e w7 ⟨fv', cv', rfl, hg7, hof, hoc⟩
        obtain ⟨gf, cf', rfl, _⟩ := own_some hof HNP.out
        obtain ⟨xk, ck', rfl⟩ := own_slice hoc
        have HG7 := Lib.hid hg7
        have HOF := Lib.hid hof
        have HOC := Lib.hid hoc
        clear hg7 hof hoc q0 q1
        go_upto_region 18 with (refine wpList_store_row rfl 34 _ _ rfl w7.heap.size #[.slice xs ns cs, .slice (some ⟨gf, 0, none⟩) nf cf'] rfl rfl 34 #[.slice none 0 0, .slice none 0 0] (heap_alloc_new w7 _) infoPr rfl (by kernel_rfl) ?_)
        have hsep := Sep.setRow (ex := fun q => q = w7.heap.size) (w7.alloc (.cells #[.slice none 0 0, .slice none 0 0] 34)) rfl #[.slice xs ns cs, .slice (some ⟨gf, 0, none⟩) nf cf']
        have hgr2 := Sep.toGr ((Gr.refl w7).alloc #[.slice none 0 0, .slice none 0 0] 34) hsep (fun q hq => Nat.le_of_eq (Eq.symm hq))
        have hbk := setRow_block (c := #[.slice xs ns cs, .slice (some ⟨gf, 0, none⟩) nf cf']) (heap_alloc_new w7 (.cells #[.slice none 0 0, .slice none 0 0] 34))
        have HG78 := Lib.hid hgr2
        have HBQ := Lib.hid hbk
        clear hsep hgr2 hbk
        generalize (w7.alloc (.cells #[.slice none 0 0, .slice none 0 0] 34)).setRow w7.heap.size #[.slice xs ns cs, .slice (some ⟨gf, 0, none⟩) nf cf'] = w8 at *
        generalize hgq : w7.heap.size = gq at *
        have HOF8 := Lib.hid (owns_gr HOF.out HG78.out)
        have HOC8 := Lib.hid (owns_gr HOC.out HG78.out)
        obtain ⟨q0, q1⟩ := cells2 HBQ.out
        have HG28 := Lib.hid (gr_trans HGR2.out (gr_trans HG7.out HG78.out))
        obtain ⟨p0, p1⟩ := cells2 (gr_block HG28.out HB6.out)
        have hii : (i : Int) < (nf : Int) := Int.ofNat_lt.2 HIN.out
        clear hki
        rcases HKC.out with hk2 | hk2 | hk2 | hk2 | hk2 | hk2 <;> (subst hk2; clear HKC)
        ·as_aux_lemma =>
         have hc0 : w8.cell? ⟨gf, i * 7 + 2, none⟩ = some (.int .i64 inn) := (HOF8.out.cellAt (i * 7 + 2) (i77 HIN.out (by decide))).trans (by rw [flat_at fuA 7 (fun _ => rfl) _ i _ 2 (set_at HPL.out _) (by decide)]; rfl)
         have fz : w8.frozen? ⟨gf, i * 7 + 2, none⟩ = false := HOF8.out.frozenAt (i * 7 + 2)
         have hof9 := own_field HOF8.out HPL.out 2 (by decide) (.int .i64 (inn + 1)) ⟨⟨host, sig, inn + 1, out, loc, l⟩, .slice xk n ck', mv⟩ rfl
         try rw [Nat.add_zero] at hof9
         have HOF9 := Lib.hid hof9
         clear hof9
         obtain ⟨t1, t2⟩ := wri1 HWL.out.2.2.2.2.1 HWL.out.2.2.2.2.2.1
         go_upto_region 33 with fail
         clear hc0 fz q0 q1 p0 p1
         have hsep := Sep.setCell (ex := fun q => q = gf) w8 (p := ⟨gf, i * 7 + 2, none⟩) rfl (.int .i64 (inn + 1))
         have HOC9 := Lib.hid (hsep.owns HOC8.out (fun q hq e => own_two HOC8.out HOF8.out (by decide) gf rfl (by rw [hq]; exact congrArg some e)))
         have HG79 := Lib.hid (Sep.toGr (gr_trans HG7.out HG78.out) hsep (fun q hq => by have e' : q = gf := hq; rw [e']; exact (HOF8.out.lt gf rfl).1))
         have HBQ9 := Lib.hid (hsep.at_ (fun e : gq = gf => own_ty HOF8.out HBQ.out (by decide) (by rw [← e]; rfl)) HBQ.out)
         clear hsep
         generalize w8.setCell ⟨gf, i * 7 + 2, none⟩ (.int .i64 (inn + 1)) = w9 at *
         have HPR := Lib.hid (prR_own (HP.out wr HGW2.out) HG79.out HGF.out ⟨host, sig, inn + 1, out, loc, l⟩ (by rw [HNF.out]; exact HOF9.out) (by dsimp only; rw [HN.out]; exact HOC9.out) (by dsimp only; rw [HN.out]; exact le20 HNL2.out) HFR.out.host HFR.out.sig (bd_in1 HWL.out.2.2.2.2.1 HWL.out.2.2.2.2.2.1) HFR.out.out HFR.out.loc HFR.out.ces)
         have HNO := Lib.hid (ref_whole (ss := P.ss) (cv := .slice xk n ck') (mv := mv) HPL.out (f := ⟨host, sig, inn + 1, out, loc, l⟩) (whl_inn (f := ⟨host, sig, inn, out, loc, l⟩) HWL.out.2.2.2.1 _ rfl))
         obtain ⟨q0, q1⟩ := cells2 HBQ9.out
         go_wp2_with fail
         clear q0 q1
         refine (check_any HPR.out).mono ?_
         rintro e w12 ⟨rfl, hg12⟩
         rw [chk_no HNO.out]
         have HG12 := Lib.hid hg12
         clear hg12
         go_wp2
         exact ⟨⟨0 + 1, by decide, by first | rfl | (rw [TI]; rfl), gr_trans HGR2.out (gr_trans HG79.out HG12.out)⟩, by first | exact meas_lt HLT.out | (rw [TI]; exact meas_lt HLT.out) | (simp [intOf])⟩
        ·as_aux_lemma =>
         have hc0 : w8.cell? ⟨gf, i * 7 + 1, none⟩ = some (.int .i64 sig) := (HOF8.out.cellAt (i * 7 + 1) (i77 HIN.out (by decide))).trans (by rw [flat_at fuA 7 (fun _ => rfl) _ i _ 1 (set_at HPL.out _) (by decide)]; rfl)
         have fz : w8.frozen? ⟨gf, i * 7 + 1, none⟩ = false := HOF8.out.frozenAt (i * 7 + 1)
         have hof9 := own_field HOF8.out HPL.out 1 (by decide) (.int .i64 (ns : Nat)) ⟨⟨host, (ns : Nat), inn, out, loc, l⟩, .slice xk n ck', mv⟩ rfl
         try rw [Nat.add_zero] at hof9
         have HOF9 := Lib.hid hof9
         clear hof9
         go_upto_region 33 with fail
         clear hc0 fz q0 q1 p0 p1
         have hsep := Sep.setCell (ex := fun q => q = gf) w8 (p := ⟨gf, i * 7 + 1, none⟩) rfl (.int .i64 (ns : Nat))
         have HOC9 := Lib.hid (hsep.owns HOC8.out (fun q hq e => own_two HOC8.out HOF8.out (by decide) gf rfl (by rw [hq]; exact congrArg some e)))
         have HG79 := Lib.hid (Sep.toGr (gr_trans HG7.out HG78.out) hsep (fun q hq => by have e' : q = gf := hq; rw [e']; exact (HOF8.out.lt gf rfl).1))
         have HBQ9 := Lib.hid (hsep.at_ (fun e : gq = gf => own_ty HOF8.out HBQ.out (by decide) (by rw [← e]; rfl)) HBQ.out)
         clear hsep
         generalize w8.setCell ⟨gf, i * 7 + 1, none⟩ (.int .i64 (ns : Nat)) = w9 at *
         have HPR := Lib.hid (prR_own (HP.out wr HGW2.out) HG79.out HGF.out ⟨host, (ns : Nat), inn, out, loc, l⟩ (by rw [HNF.out]; exact HOF9.out) (by dsimp only; rw [HN.out]; exact HOC9.out) (by dsimp only; rw [HN.out]; exact le20 HNL2.out) HFR.out.host (bd_nat HNSL.out) HFR.out.inn HFR.out.out HFR.out.loc HFR.out.ces)
         have HNO := Lib.hid (ref_whole (ss := P.ss) (cv := .slice xk n ck') (mv := mv) HPL.out (f := ⟨host, (ns : Nat), inn, out, loc, l⟩) (whl_sg (f := ⟨host, sig, inn, out, loc, l⟩) (n := ns) _ HNS.out))
         obtain ⟨q0, q1⟩ := cells2 HBQ9.out
         go_wp2_with fail
         clear q0 q1
         refine (check_any HPR.out).mono ?_
         rintro e w12 ⟨rfl, hg12⟩
         rw [chk_no HNO.out]
         have HG12 := Lib.hid hg12
         clear hg12
         go_wp2
         exact ⟨⟨1 + 1, by decide, by first | rfl | (rw [TI]; rfl), gr_trans HGR2.out (gr_trans HG79.out HG12.out)⟩, by first | exact meas_lt HLT.out | (rw [TI]; exact meas_lt HLT.out) | (simp [intOf])⟩
        ·as_aux_lemma =>
         have hc0 : w8.cell? ⟨gf, i * 7 + 4, none⟩ = some (.int .i64 loc) := (HOF8.out.cellAt (i * 7 + 4) (i77 HIN.out (by decide))).trans (by rw [flat_at fuA 7 (fun _ => rfl) _ i _ 4 (set_at HPL.out _) (by decide)]; rfl)
         have fz : w8.frozen? ⟨gf, i * 7 + 4, none⟩ = false := HOF8.out.frozenAt (i * 7 + 4)
         have hof9 := own_field HOF8.out HPL.out 4 (by decide) (.int .i64 4097) ⟨⟨host, sig, inn, out, 4097, l⟩, .slice xk n ck', mv⟩ rfl
         try rw [Nat.add_zero] at hof9
         have HOF9 := Lib.hid hof9
         clear hof9
         go_upto_region 33 with fail
         clear hc0 fz q0 q1 p0 p1
         have hsep := Sep.setCell (ex := fun q => q = gf) w8 (p := ⟨gf, i * 7 + 4, none⟩) rfl (.int .i64 4097)
         have HOC9 := Lib.hid (hsep.owns HOC8.out (fun q hq e => own_two HOC8.out HOF8.out (by decide) gf rfl (by rw [hq]; exact congrArg some e)))
         have HG79 := Lib.hid (Sep.toGr (gr_trans HG7.out HG78.out) hsep (fun q hq => by have e' : q = gf := hq; rw [e']; exact (HOF8.out.lt gf rfl).1))
         have HBQ9 := Lib.hid (hsep.at_ (fun e : gq = gf => own_ty HOF8.out HBQ.out (by decide) (by rw [← e]; rfl)) HBQ.out)
         clear hsep
         generalize w8.setCell ⟨gf, i * 7 + 4, none⟩ (.int .i64 4097) = w9 at *
         have HPR := Lib.hid (prR_own (HP.out wr HGW2.out) HG79.out HGF.out ⟨host, sig, inn, out, 4097, l⟩ (by rw [HNF.out]; exact HOF9.out) (by dsimp only; rw [HN.out]; exact HOC9.out) (by dsimp only; rw [HN.out]; exact le20 HNL2.out) HFR.out.host HFR.out.sig HFR.out.inn HFR.out.out bd_4097 HFR.out.ces)
         have HNO := Lib.hid (ref_whole (ss := P.ss) (cv := .slice xk n ck') (mv := mv) HPL.out (f := ⟨host, sig, inn, out, 4097, l⟩) (whl_loc (f := ⟨host, sig, inn, out, loc, l⟩) _))
         obtain ⟨q0, q1⟩ := cells2 HBQ9.out
         go_wp2_with fail
         clear q0 q1
         refine (check_any HPR.out).mono ?_
         rintro e w12 ⟨rfl, hg12⟩
         rw [chk_no HNO.out]
         have HG12 := Lib.hid hg12
         clear hg12
         go_wp2
         exact ⟨⟨2 + 1, by decide, by first | rfl | (rw [TI]; rfl), gr_trans HGR2.out (gr_trans HG79.out HG12.out)⟩, by first | exact meas_lt HLT.out | (rw [TI]; exact meas_lt HLT.out) | (simp [intOf])⟩
        ·as_aux_lemma =>
         have hc0 : w8.cell? ⟨gf, i * 7, none⟩ = some (.int .i64 host) := (HOF8.out.cellAt (i * 7 + 0) (i77 HIN.out (by decide))).trans (by rw [flat_at fuA 7 (fun _ => rfl) _ i _ 0 (set_at HPL.out _) (by decide)]; rfl)
         have fz : w8.frozen? ⟨gf, i * 7, none⟩ = false := HOF8.out.frozenAt (i * 7 + 0)
         have hof9 := own_field HOF8.out HPL.out 0 (by decide) (.int .i64 (-2)) ⟨⟨-2, sig, inn, out, loc, l⟩, .slice xk n ck', mv⟩ rfl
         try rw [Nat.add_zero] at hof9
         have HOF9 := Lib.hid hof9
         clear hof9
         go_upto_region 33 with fail
         clear hc0 fz q0 q1 p0 p1
         have hsep := Sep.setCell (ex := fun q => q = gf) w8 (p := ⟨gf, i * 7, none⟩) rfl (.int .i64 (-2))
         have HOC9 := Lib.hid (hsep.owns HOC8.out (fun q hq e => own_two HOC8.out HOF8.out (by decide) gf rfl (by rw [hq]; exact congrArg some e)))
         have HG79 := Lib.hid (Sep.toGr (gr_trans HG7.out HG78.out) hsep (fun q hq => by have e' : q = gf := hq; rw [e']; exact (HOF8.out.lt gf rfl).1))
         have HBQ9 := Lib.hid (hsep.at_ (fun e : gq = gf => own_ty HOF8.out HBQ.out (by decide) (by rw [← e]; rfl)) HBQ.out)
         clear hsep
         generalize w8.setCell ⟨gf, i * 7, none⟩ (.int .i64 (-2)) = w9 at *
         have HPR := Lib.hid (prR_own (HP.out wr HGW2.out) HG79.out HGF.out ⟨-2, sig, inn, out, loc, l⟩ (by rw [HNF.out]; exact HOF9.out) (by dsimp only; rw [HN.out]; exact HOC9.out) (by dsimp only; rw [HN.out]; exact le20 HNL2.out) bd_m2 HFR.out.sig HFR.out.inn HFR.out.out HFR.out.loc HFR.out.ces)
         have HNO := Lib.hid (ref_whole (ss := P.ss) (cv := .slice xk n ck') (mv := mv) HPL.out (f := ⟨-2, sig, inn, out, loc, l⟩) (whl_host2 (f := ⟨host, sig, inn, out, loc, l⟩) _))
         obtain ⟨q0, q1⟩ := cells2 HBQ9.out
         go_wp2_with fail
         clear q0 q1
         refine (check_any HPR.out).mono ?_
         rintro e w12 ⟨rfl, hg12⟩
         rw [chk_no HNO.out]
         have HG12 := Lib.hid hg12
         clear hg12
         go_wp2
         exact ⟨⟨3 + 1, by decide, by first | rfl | (rw [TI]; rfl), gr_trans HGR2.out (gr_trans HG79.out HG12.out)⟩, by first | exact meas_lt HLT.out | (rw [TI]; exact meas_lt HLT.out) | (simp [intOf])⟩
        ·as_aux_lemma =>
         obtain ⟨iS, hi, hz0, hz1, hz2⟩ := info_parts infoSz
         have HIS := Lib.hid hi
         have HZ0S := Lib.hid hz0
         have HZ1S := Lib.hid hz1
         have HZ2S := Lib.hid hz2
         clear hi hz0 hz1 hz2
         have HFLN := Lib.hid (show (flat siA P.ss).length = ns * 2 by rw [flat_len siA 2 (fun _ => rfl), HNS.out])
         have HSS := Lib.hid (fun wx (hg : Gr wr wx) => src_of_rw (rwR_gr (show RwR wr (.slice xs ns cs) ns (flat siA P.ss) from by have h1 := (HP.out wr HGW2.out).ss; rw [HNS.out] at h1; exact h1) hg) (by rw [HFLN.out]; exact Nat.mul_pos (pos_of HWL.out.2.1 (by have h1 := HWL.out.2.2.1; rw [HNS.out] at h1; exact h1)) (by decide)))
         have HSONE := Lib.hid (flat_one siA P.ss (fun s hs => si_one ((HP.out wr HGW2.out).sis s hs)))
         go_upto_region 28 with fail
         have p0' := gr_cell ((Gr.refl w8).alloc #[] 53) p0
         go_upto_region 29 with (first | (at_builtin; refine wpList_append_at rfl _ _ 31 rfl w8.heap.size 53 iS (.agg #[.slice none 0 0, .slice none 0 0]) 2 48 Try.underlying31 HIS.out HZ0S.out HZ1S.out HZ2S.out rfl (by decide) (.slice (some ⟨w8.heap.size, 0, none⟩) 0 0) 0 [] rfl (World.ownsRow_lit (base := w8.heap.size) (e := 53) (size := 2) w8 #[] 0 (Nat.le_refl _) (by decide) rfl) (.slice xs ns cs) ns (flat siA P.ss) rfl (HSS.out _ (gr_trans (gr_trans HG7.out HG78.out) ((Gr.refl w8).alloc _ _))) HFLN.out HSONE.out (sg_max HNSL.out).1 (sg_max HNSL.out).2.1 ((Gr.refl w8).alloc #[] 53).size ?_))
         intro v9 w9 hown hgb hbk
         obtain ⟨x9, c9, rfl⟩ := own_slice hown
         have HG89 := Lib.hid (Sep.toGr ((Gr.refl w8).alloc #[] 53) (Sep.grown (ex := fun q => q = w8.heap.size) hgb (fun q hq => (Option.some.inj hq).symm)) (fun q hq => Nat.le_of_eq (Eq.symm hq)))
         have HOW9 := Lib.hid hown
         have HX2 := Lib.hid (box2 w9 #[.int .i64 123] #[.slice (some ⟨w9.heap.size, 0, none⟩) 1 1, .slice none 0 0] 3 53)
         clear hown hgb hbk p0 p1 p0'
         go_upto_region 29 with (first | (refine wpList_build_at rfl 53 _ rfl #[.slice (some ⟨w9.heap.size, 0, none⟩) 1 1, .slice none 0 0] (by kernel_rfl) ?_) | (at_builtin; refine wpList_append_at rfl _ _ 31 rfl w8.heap.size 53 iS (.agg #[.slice none 0 0, .slice none 0 0]) 2 48 Try.underlying31 HIS.out HZ0S.out HZ1S.out HZ2S.out rfl (by decide) (.slice x9 ns c9) ns (flat siA P.ss) rfl (World.ownsRow.alloc (World.ownsRow.alloc HOW9.out _) _) (.slice (some ⟨w9.heap.size + 1, 0, none⟩) 1 1) 1 [.slice (some ⟨w9.heap.size, 0, none⟩) 1 1, .slice none 0 0] rfl (src_row HX2.out.2.2 1 1) rfl ((List.all_eq_true (p := fun u : Value => u.oneCell')).1 rfl) (sg_max HNSL.out).2.2.1 (sg_max HNSL.out).2.2.2.1 (gr_trans HG89.out HX2.out.1).size ?_))
         intro v11 w11 hown2 hgb2 hbk2
         obtain ⟨x11, c11, rfl⟩ := own_slice hown2
         have hpre : Sep (fun q => (Value.slice x9 ns c9).ownBlock = some q) w9 w11 := Sep.trans (Sep.of_gr HX2.out.1) (Sep.grown hgb2 (fun q hq => hq))
         have HG811 := Lib.hid (Sep.toGr HG89.out hpre (fun q hq => (HOW9.out.lt q hq).1))
         have HB123 := Lib.hid ((Sep.grown (ex := fun q => (Value.slice x9 ns c9).ownBlock = some q) hgb2 (fun q hq => hq)).at_ (fun e => absurd (HOW9.out.lt _ e).2 (Nat.lt_irrefl _)) HX2.out.2.1)
         have HOS := Lib.hid hown2
         clear hpre hown2 hgb2 hbk2 q0 q1
         have fz := froz (gr_block HG811.out HBQ.out) 0
         obtain ⟨q0, q1⟩ := cells2 (gr_block HG811.out HBQ.out)
         go_upto_region 33 with fail
         clear fz q0 q1
         have hsep := Sep.setCell (ex := fun q => q = gq) w11 (p := ⟨gq, 0, none⟩) rfl (.slice x11 (ns + 1) c11)
         have HBQ12 := Lib.hid (show (w11.setCell ⟨gq, 0, none⟩ (.slice x11 (ns + 1) c11)).heap[gq]? = some (.cells #[.slice x11 (ns + 1) c11, .slice (some ⟨gf, 0, none⟩) nf cf'] 34 (0, 0)) from heap_setCell_same w11 gq 0 _ _ _ (gr_block HG811.out HBQ.out))
         have HOF12 := Lib.hid (hsep.owns (owns_gr HOF8.out HG811.out) (fun q hq e => own_ty (owns_gr HOF8.out HG811.out) (gr_block HG811.out HBQ.out) (by decide) (by rw [hq]; exact congrArg some e)))
         have HOC12 := Lib.hid (hsep.owns (owns_gr HOC8.out HG811.out) (fun q hq e => own_ty (owns_gr HOC8.out HG811.out) (gr_block HG811.out HBQ.out) (by decide) (by rw [hq]; exact congrArg some e)))
         have HOS12 := Lib.hid (hsep.owns HOS.out (fun q hq e => own_ty HOS.out (gr_block HG811.out HBQ.out) (by decide) (by rw [hq]; exact congrArg some e)))
         have HB12 := Lib.hid (hsep.at_ (fun e : w9.heap.size = gq => ne3 (Array.getElem?_eq_some_iff.1 HBQ.out).1 HG89.out.size e.symm) HB123.out)
         have HG79 := Lib.hid (Sep.toGr (gr_trans (gr_trans HG7.out HG78.out) HG811.out) hsep (fun q hq => by rw [show q = gq from hq, ← hgq]; exact HG7.out.size))
         clear hsep
         generalize w11.setCell ⟨gq, 0, none⟩ (.slice x11 (ns + 1) c11) = w10 at *
         have HPR := Lib.hid (prR_app (prR_own (HP.out wr HGW2.out) HG79.out HGF.out ⟨host, sig, inn, out, loc, l⟩ (by rw [HNF.out]; exact HOF12.out) (by dsimp only; rw [HN.out]; exact HOC12.out) (by dsimp only; rw [HN.out]; exact le20 HNL2.out) HFR.out.host HFR.out.sig HFR.out.inn HFR.out.out HFR.out.loc HFR.out.ces) HNS.out HOS12.out HB12.out (sg_max HNSL.out).2.2.2.2)
         have HNO := Lib.hid (ref_sigs (ss := P.ss) (fs := P.fs.set i ⟨⟨host, sig, inn, out, loc, l⟩, .slice xk n ck', mv⟩) (iv := .slice (some ⟨w9.heap.size, 0, none⟩) 1 1) (ov := .slice none 0 0))
         obtain ⟨q0, q1⟩ := cells2 HBQ12.out
         go_wp2_with fail
         clear q0 q1
         refine (check_any HPR.out).mono ?_
         rintro e w12 ⟨rfl, hg12⟩
         rw [chk_no HNO.out]
         have HG12 := Lib.hid hg12
         clear hg12
         go_wp2
         exact ⟨⟨4 + 1, by decide, by first | rfl | (rw [TI]; rfl), gr_trans HGR2.out (gr_trans HG79.out HG12.out)⟩, by first | exact meas_lt HLT.out | (rw [TI]; exact meas_lt HLT.out) | (simp [intOf])⟩
        ·as_aux_lemma =>
         rcases hostc HWL.out.1 with hh | hh
         ·have hge : ¬ ((0 : Int) ≤ host) := by rw [hh]; decide
          have hc0 : w8.cell? ⟨gf, i * 7, none⟩ = some (.int .i64 host) := (HOF8.out.cellAt (i * 7 + 0) (i77 HIN.out (by decide))).trans (by rw [flat_at fuA 7 (fun _ => rfl) _ i _ 0 (set_at HPL.out _) (by decide)]; rfl)
          have fz : w8.frozen? ⟨gf, i * 7, none⟩ = false := HOF8.out.frozenAt (i * 7 + 0)
          have hof9 := own_field HOF8.out HPL.out 0 (by decide) (.int .i64 0) ⟨⟨0, sig, inn, out, loc, l⟩, .slice xk n ck', mv⟩ rfl
          try rw [Nat.add_zero] at hof9
          have HOF9 := Lib.hid hof9
          clear hof9
          go_upto_region 31 with fail
          clear hc0 fz q0 q1 p0 p1
          have hsep := Sep.setCell (ex := fun q => q = gf) w8 (p := ⟨gf, i * 7, none⟩) rfl (.int .i64 0)
          have HOC9 := Lib.hid (hsep.owns HOC8.out (fun q hq e => own_two HOC8.out HOF8.out (by decide) gf rfl (by rw [hq]; exact congrArg some e)))
          have HG79 := Lib.hid (Sep.toGr (gr_trans HG7.out HG78.out) hsep (fun q hq => by have e' : q = gf := hq; rw [e']; exact (HOF8.out.lt gf rfl).1))
          have HBQ9 := Lib.hid (hsep.at_ (fun e : gq = gf => own_ty HOF8.out HBQ.out (by decide) (by rw [← e]; rfl)) HBQ.out)
          clear hsep
          generalize w8.setCell ⟨gf, i * 7, none⟩ (.int .i64 0) = w9 at *
          obtain ⟨p0, p1⟩ := cells2 (gr_block (gr_trans HGR2.out HG79.out) HB6.out)
          have dh : w9.cell? ⟨b, off + i * 7, none⟩ = some (.int .i64 host) := HD.out w9 (gr_trans HGW2.out HG79.out) 0 _ rfl
          go_upto_region 33 with fail
          clear p0 p1 dh hge
          have HPR := Lib.hid (prR_own (HP.out wr HGW2.out) HG79.out HGF.out ⟨0, sig, inn, out, loc, l⟩ (by rw [HNF.out]; exact HOF9.out) (by dsimp only; rw [HN.out]; exact HOC9.out) (by dsimp only; rw [HN.out]; exact le20 HNL2.out) bd0 HFR.out.sig HFR.out.inn HFR.out.out HFR.out.loc HFR.out.ces)
          have HNO := Lib.hid (ref_whole (ss := P.ss) (cv := .slice xk n ck') (mv := mv) HPL.out (f := ⟨0, sig, inn, out, loc, l⟩) (whl_hx (f := ⟨host, sig, inn, out, loc, l⟩) _ (host_a HWL.out.2.2.2.2.2.2.2.2 hh)))
          obtain ⟨q0, q1⟩ := cells2 HBQ9.out
          go_wp2_with fail
          clear q0 q1
          refine (check_any HPR.out).mono ?_
          rintro e w12 ⟨rfl, hg12⟩
          rw [chk_no HNO.out]
          have HG12 := Lib.hid hg12
          clear hg12
          go_wp2
          exact ⟨⟨5 + 1, by decide, by first | rfl | (rw [TI]; rfl), gr_trans HGR2.out (gr_trans HG79.out HG12.out)⟩, by first | exact meas_lt HLT.out | (rw [TI]; exact meas_lt HLT.out) | (simp [intOf])⟩
         ·have hge : (0 : Int) ≤ host := hh
          have HHH := Lib.hid hh
          clear hh
          have hc0 : w8.cell? ⟨gf, i * 7, none⟩ = some (.int .i64 host) := (HOF8.out.cellAt (i * 7 + 0) (i77 HIN.out (by decide))).trans (by rw [flat_at fuA 7 (fun _ => rfl) _ i _ 0 (set_at HPL.out _) (by decide)]; rfl)
          have fz : w8.frozen? ⟨gf, i * 7, none⟩ = false := HOF8.out.frozenAt (i * 7 + 0)
          have hof9 := own_field HOF8.out HPL.out 0 (by decide) (.int .i64 0) ⟨⟨0, sig, inn, out, loc, l⟩, .slice xk n ck', mv⟩ rfl
          try rw [Nat.add_zero] at hof9
          have HOF9 := Lib.hid hof9
          clear hof9
          go_upto_region 31 with fail
          clear hc0 fz q0 q1 p0 p1
          have hsep := Sep.setCell (ex := fun q => q = gf) w8 (p := ⟨gf, i * 7, none⟩) rfl (.int .i64 0)
          have HOC9 := Lib.hid (hsep.owns HOC8.out (fun q hq e => own_two HOC8.out HOF8.out (by decide) gf rfl (by rw [hq]; exact congrArg some e)))
          have HG79 := Lib.hid (Sep.toGr (gr_trans HG7.out HG78.out) hsep (fun q hq => by have e' : q = gf := hq; rw [e']; exact (HOF8.out.lt gf rfl).1))
          have HBQ9 := Lib.hid (hsep.at_ (fun e : gq = gf => own_ty HOF8.out HBQ.out (by decide) (by rw [← e]; rfl)) HBQ.out)
          clear hsep
          generalize w8.setCell ⟨gf, i * 7, none⟩ (.int .i64 0) = w9 at *
          obtain ⟨p0, p1⟩ := cells2 (gr_block (gr_trans HGR2.out HG79.out) HB6.out)
          have dh : w9.cell? ⟨b, off + i * 7, none⟩ = some (.int .i64 host) := HD.out w9 (gr_trans HGW2.out HG79.out) 0 _ rfl
          obtain ⟨q0, q1⟩ := cells2 HBQ9.out
          have hc0 : w9.cell? ⟨gf, i * 7, none⟩ = some (.int .i64 0) := (HOF9.out.cellAt (i * 7 + 0) (i77 HIN.out (by decide))).trans (by rw [flat_at fuA 7 (fun _ => rfl) _ i _ 0 (set_at HPL.out _) (by decide)]; rfl)
          have fz : w9.frozen? ⟨gf, i * 7, none⟩ = false := HOF9.out.frozenAt (i * 7 + 0)
          have hof8c := own_field HOF9.out HPL.out 0 (by decide) (.int .i64 (-1)) ⟨⟨-1, sig, inn, out, loc, l⟩, .slice xk n ck', mv⟩ rfl
          try rw [Nat.add_zero] at hof8c
          have HOF8c := Lib.hid hof8c
          clear hof8c
          go_upto_region 33 with fail
          clear hc0 fz q0 q1 p0 p1 dh hge
          have hsep := Sep.setCell (ex := fun q => q = gf) w9 (p := ⟨gf, i * 7, none⟩) rfl (.int .i64 (-1))
          have HOC8c := Lib.hid (hsep.owns HOC9.out (fun q hq e => own_two HOC9.out HOF9.out (by decide) gf rfl (by rw [hq]; exact congrArg some e)))
          have HG8c := Lib.hid (Sep.toGr HG79.out hsep (fun q hq => by have e' : q = gf := hq; rw [e']; exact (HOF9.out.lt gf rfl).1))
          have HBQ8c := Lib.hid (hsep.at_ (fun e : gq = gf => own_ty HOF9.out HBQ9.out (by decide) (by rw [← e]; rfl)) HBQ9.out)
          clear hsep
          generalize w9.setCell ⟨gf, i * 7, none⟩ (.int .i64 (-1)) = w11 at *
          have HPR := Lib.hid (prR_own (HP.out wr HGW2.out) HG8c.out HGF.out ⟨-1, sig, inn, out, loc, l⟩ (by rw [HNF.out]; exact HOF8c.out) (by dsimp only; rw [HN.out]; exact HOC8c.out) (by dsimp only; rw [HN.out]; exact le20 HNL2.out) bdm HFR.out.sig HFR.out.inn HFR.out.out HFR.out.loc HFR.out.ces)
          have HNO := Lib.hid (ref_whole (ss := P.ss) (cv := .slice xk n ck') (mv := mv) HPL.out (f := ⟨-1, sig, inn, out, loc, l⟩) (whl_hx (f := ⟨host, sig, inn, out, loc, l⟩) _ (host_b HWL.out.2.2.2.2.2.2.2.2 HHH.out)))
          obtain ⟨q0, q1⟩ := cells2 HBQ8c.out
          go_wp2_with fail
          clear q0 q1
          refine (check_any HPR.out).mono ?_
          rintro e w12 ⟨rfl, hg12⟩
          rw [chk_no HNO.out]
          have HG12 := Lib.hid hg12
          clear hg12
          go_wp2
          exact ⟨⟨5 + 1, by decide, by first | rfl | (rw [TI]; rfl), gr_trans HGR2.out (gr_trans HG8c.out HG12.out)⟩, by first | exact meas_lt HLT.out | (rw [TI]; exact meas_lt HLT.out) | (simp [intOf])⟩
       ·obtain rfl : k2 = 6 := Nat.le_antisymm hk2 (Nat.le_of_not_lt hlt)
        have h66 : ¬ (((6 : Nat) : Int) < 6) := by decide
        clear hlt hk2
        go_upto_region 35 with fail
        go_wp2_with fail
        refine (HCK.out _ HGW2.out).mono ?_
        rintro e w12 ⟨rfl, hg12⟩
        have HG12 := Lib.hid (gr_trans HGW2.out hg12)
        clear hg12 q0 q1 h66
        go_wp2
        go_ret
        exact ⟨rfl, HG12.out⟩
end Tg
end Go.Proofs.Ytifjgocfdnhdeaa
