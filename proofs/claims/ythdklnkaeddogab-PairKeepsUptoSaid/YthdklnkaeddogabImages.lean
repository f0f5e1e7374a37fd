/-
  PairImages: for every list of types, of vectors and of halves the law returns true, where the types are no more than 2^40.
-/
import Derived.Test.YthdklnkaeddogabOpenV
namespace Go.Proofs.Ythdklnkaeddogab
open Go.RowKit VecM
/-- a list's numbers, one by one -/
theorem u64c_of_uvs {w : World} {base : Nat} {e : TypeId} {v : Value} {l : List Int} (h : w.ownsRow base e 1 v l.length (uvs l)) : U64c w v l.length (fun j => l.getD j 0) := by
  rcases h.2 with ⟨h1, h2⟩ | ⟨g, cap, cur, rfl, hb, hh, hn, hcap, hsz, htk⟩
  · exact .inl ⟨h2, _, _, h1⟩
  · refine .inr ⟨by unfold maxLen at hcap; omega, g, 0, cap, hn, rfl, fun j hj => ?_⟩
    rw [Nat.zero_add, cell_of_row _ _ j _ _ _ hh]
    have h3 : (uvs l)[j]? = some (.int .u64 (l.getD j 0)) := by unfold uvs; simp [List.getD_eq_getElem?_getD, hj]
    rw [← htk, Nat.mul_one, List.getElem?_take, if_pos hj] at h3
    simpa using h3
set_option maxHeartbeats 2000000 in
theorem images_walk (tv vv hv : Value) (n m h : Nat) (ts : Nat → Int) (vs : Nat → Nat → Int) (zs : Nat → Int) (hvs : ∀ j, Byt (vs j)) (hz : ∀ j, 0 ≤ zs j ∧ zs j < 18446744073709551616) (hn : n ≤ 1048576) (w : World)
    (ht : I64s w tv n ts) (hvv : Vecs w vv m vs) (hh : U64c w hv h zs) :
    Calls Try.prog 5 #[tv, vv, hv] w fun e w' => e = .returned (.bool true) ∧ Gr w w' := by
  have HT := Lib.hid ht
  have HV := Lib.hid hvv
  have HH := Lib.hid hh
  have HB := Lib.hid hvs
  have HZ := Lib.hid hz
  have HN := Lib.hid (show n ≤ 1099511627776 by omega)
  generalize hpx : putX ts n m = px
  generalize htx : takX ts n h = tx
  have HPX := Lib.hid hpx
  have HTX := Lib.hid htx
  clear ht hvv hh hvs hz hn hpx htx
  go_enter Try.func5, Try.ntmps5
  go_upto_region 3 with (go_at_call 10; refine (Aw.awake _).mono ?_; rintro e w1 ⟨rfl, hg1⟩; have HG1 := Lib.hid hg1; clear hg1)
  go_upto_region 4 with (go_at_call 28; refine (put_any HB.out HN.out (i64s_gr HT.out HG1.out) (vecs_gr HV.out HG1.out)).mono ?_; rw [HPX.out]; rintro e w2 ⟨s2, rfl, hg2, ho2⟩; have HG2 := Lib.hid (gr_trans HG1.out hg2); have HO2 := Lib.hid ho2; clear hg2 ho2)
  go_upto_region 5 with (go_at_call 29; refine (rput_any HB.out HN.out (i64s_gr HT.out HG2.out) (vecs_gr HV.out HG2.out)).mono ?_; rw [HPX.out]; rintro e w3 ⟨s3, rfl, hg3, ho3⟩; have HK3 := Lib.hid hg3; have HG3 := Lib.hid (gr_trans HG2.out hg3); have HO3 := Lib.hid ho3; clear hg3 ho3)
  go_upto_region 6 with (go_at_call 30; refine (take_any HN.out (i64s_gr HT.out HG3.out) (u64c_gr HH.out HG3.out)).mono ?_; rw [HTX.out]; rintro e w4 ⟨s4, rfl, hg4, ho4⟩; have HK4 := Lib.hid hg4; have HG4 := Lib.hid (gr_trans HG3.out hg4); have HO4 := Lib.hid ho4; clear hg4 ho4)
  go_upto_region 7 with (go_at_call 31; refine (rtake_any HN.out HZ.out (i64s_gr HT.out HG4.out) (u64c_gr HH.out HG4.out)).mono ?_; rw [HTX.out]; rintro e w5 ⟨s5, rfl, hg5, ho5⟩; have HK5 := Lib.hid hg5; have HG5 := Lib.hid (gr_trans HG4.out hg5); have HO5 := Lib.hid ho5; clear hg5 ho5)
  have HU2 := Lib.hid (u64s_gr (u64s_of_c (u64c_of_uvs HO2.out)) (gr_trans HK3.out (gr_trans HK4.out HK5.out)))
  have HU3 := Lib.hid (u64s_gr (u64s_of_c (u64c_of_uvs HO3.out)) (gr_trans HK4.out HK5.out))
  have HU4 := Lib.hid (vecs_gr (vecs_of_owns HO4.out) HK5.out)
  have HU5 := Lib.hid (vecs_of_owns HO5.out)
  go_wp2_with (first | (go_at_call 19; refine (same_any HU2.out HU3.out).mono ?_; rintro e w6 ⟨rfl, hg6⟩; have HG6 := Lib.hid hg6; clear hg6) | (go_at_call 32; refine (vecs_any (vecs_gr HU4.out HG6.out) (vecs_gr HU5.out HG6.out)).mono ?_; rintro e w7 ⟨rfl, hg7⟩; have HG7 := Lib.hid hg7; clear hg7))
  go_ret
  exact ⟨rfl, gr_trans HG5.out (gr_trans HG6.out HG7.out)⟩
end Go.Proofs.Ythdklnkaeddogab
