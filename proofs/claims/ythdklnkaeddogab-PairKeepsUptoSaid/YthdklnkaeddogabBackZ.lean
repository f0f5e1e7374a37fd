/-
  PairBack: the law's walk of all lists of types and vectors, no types at all among them.
-/
import Derived.Test.YthdklnkaeddogabBack
namespace Go.Proofs.Ythdklnkaeddogab
open Go.RowKit VecM
set_option maxRecDepth 100000 in
set_option maxHeartbeats 4000000 in
theorem back_zero (a : Option Addr) (c : Nat) (vv : Value) (m : Nat) (ts : Nat → Int) (vs : Nat → Nat → Int) (hvs : ∀ j, Byt (vs j)) (w : World) (hvv : Vecs w vv m vs) :
    Calls Try.prog 8 #[.slice a 0 c, vv] w fun e w' => e = .returned (.bool true) ∧ Gr w w' := by
  have HI64 := Lib.hid (show ∀ w, I64s w (.slice a 0 c) 0 ts from fun _ => .inl ⟨rfl, _, _, rfl⟩)
  obtain ⟨va, vc, rfl⟩ := slice_vecs hvv
  have HV := Lib.hid hvv
  have HB := Lib.hid hvs
  have hok : okT ts 0 := fun j hj => by omega
  have hpl : putR ts vs 0 m = [] := by
    by_cases hm : 0 = m
    · rw [putR_yes ⟨hok, hm⟩]; rfl
    · rw [putR_no fun h => hm h.2]
  generalize hpx : putX ts 0 m = px
  have HPX := Lib.hid hpx
  have HPL := Lib.hid hpl
  have HO := Lib.hid hok
  have hn0 : needN ts 0 = 0 := rfl
  have HN0 := Lib.hid hn0
  clear hvv hvs hpx hpl hok hn0
  go_enter Try.func8, Try.ntmps8
  go_upto_region 3 with (go_at_call 10; refine (Aw.awake _).mono ?_; rintro e w1 ⟨rfl, hg1⟩; have HG1 := Lib.hid hg1; clear hg1)
  go_upto_region 4 with (go_at_call 28; refine (put_any HB.out (by decide) (HI64.out _) (vecs_gr HV.out HG1.out)).mono ?_; rw [HPX.out, HPL.out]; rintro e w2 ⟨s2, rfl, hg2, ho2⟩; have HG2 := Lib.hid (gr_trans HG1.out hg2); have HO2 := Lib.hid (show w2.ownsRow w1.heap.size 26 1 s2 0 [] from ho2); clear hg2 ho2)
  obtain ⟨xa, xc, rfl⟩ := owns_slice HO2.out
  have HS2 := Lib.hid (src_of_owns HO2.out)
  have HU2 := Lib.hid (show U64c w2 (.slice xa 0 xc) 0 (fun _ => 0) from .inl ⟨rfl, _, _, rfl⟩)
  go_wp2_with fail
  refine wp_loop_rounds 1 ?_
  rw [rounds_succ]
  by_cases hnm : 0 = m
  · subst hnm
    obtain rfl : px = 0 := by rw [← HPX.out]; exact putX_yes ⟨HO.out, rfl⟩
    have HTK := Lib.hid (show takX ts 0 0 = 0 from takX_yes ⟨HO.out, HN0.out⟩)
    have HTN := Lib.hid (show takN ts 0 0 = 0 from takN_yes ⟨HO.out, HN0.out⟩)
    have HTP := Lib.hid (show takX ts 0 1 = 1 from takX_no fun h => by have := HN0.out; omega)
    go_wp2_with (go_at_call 30; refine (take_any (by decide) (HI64.out _) HU2.out).mono ?_; rw [HTK.out, HTN.out]; rintro e w3 ⟨s3, rfl, hg3, ho3⟩; have HG3 := Lib.hid (gr_trans HG2.out hg3); have HK3 := Lib.hid hg3; obtain ⟨ya, yc, rfl⟩ := owns_slice ho3; clear hg3 ho3)
    refine wp_loop_rounds 1 ?_
    rw [rounds_succ]
    have HS3 := Lib.hid (src_gr HS2.out HK3.out)
    obtain ⟨i0, hi, hz0, hz1, hz2⟩ := info_parts info64
    have HI := Lib.hid hi
    have HZ0 := Lib.hid hz0
    have HZ1 := Lib.hid hz1
    have HZ2 := Lib.hid hz2
    clear hi hz0 hz1 hz2
    go_wp2_with (at_builtin; refine wpList_append_src rfl _ _ 34 rfl w3.heap.size 26 i0 (.int .u64 0) 1 8 Try.underlying34 HI.out HZ0.out HZ1.out HZ2.out rfl (by decide) (.slice (some ⟨w3.heap.size, 0, none⟩) 0 0) 0 [] rfl (World.ownsRow_made w3 #[] 0 (Nat.le_refl _) (by decide) rfl) (.slice xa 0 xc) 0 [] rfl (src_gr HS3.out ((Gr.refl w3).allocO _)) rfl (fun _ h => by cases h) (by decide) (by decide) (by simp) ?_)
    intro v' w5 hown5 hgb5
    have HG5 := Lib.hid (((Gr.refl w3).allocO _).grown hgb5 (fun q hq => by simp [Value.ownBlock] at hq; omega))
    have HO5 := Lib.hid (show w5.ownsRow w3.heap.size 26 1 v' 0 [] from hown5)
    clear hown5 hgb5
    go_wp2_with (at_builtin; refine wpList_append_src rfl _ _ 34 rfl w3.heap.size 26 i0 (.int .u64 0) 1 8 Try.underlying34 HI.out HZ0.out HZ1.out HZ2.out rfl (by decide) v' 0 [] rfl (HO5.out.alloc _) (.slice (some ⟨w5.heap.size, 0, none⟩) 1 1) 1 [.int .u64 1] rfl (src_one w5 _ _) rfl (fun u hu => by simp at hu; subst hu; rfl) (by decide) (by decide) (by have := HG5.out.size; simp; omega) ?_)
    intro v7 w7 hown7 hgb7
    have HG7 := Lib.hid (((gr_trans HG5.out ((Gr.refl w5).allocO _))).grown hgb7 (fun q hq => (HO5.out.lt q hq).1))
    have HO7 := Lib.hid (show w7.ownsRow w3.heap.size 26 1 v7 ([(1 : Int)]).length (uvs [1]) from hown7)
    have HU7 := Lib.hid (show U64c w7 v7 1 _ from u64c_of_uvs HO7.out)
    clear hown7 hgb7
    go_wp2_with (go_at_call 30; refine (take_any (by decide) (HI64.out _) HU7.out).mono ?_; rw [HTP.out]; rintro e w8 ⟨s8, rfl, hg8, -⟩; have HG8 := Lib.hid (gr_trans HG7.out hg8); clear hg8)
    go_ret
    exact ⟨rfl, gr_trans HG3.out HG8.out⟩
  · obtain rfl : px = 1 := by rw [← HPX.out]; exact putX_no fun h => hnm h.2
    have hne : ((0 : Int) != (m : Int)) = true := by rw [bne_iff_ne]; intro e; exact hnm (by omega)
    clear hnm
    go_wp2
    go_ret
    exact ⟨rfl, HG2.out⟩
theorem back_walk (tv vv : Value) (n m : Nat) (ts : Nat → Int) (vs : Nat → Nat → Int) (hvs : ∀ j, Byt (vs j)) (hn : n ≤ 1048576) (w : World) (ht : I64s w tv n ts) (hvv : Vecs w vv m vs) :
    Calls Try.prog 8 #[tv, vv] w fun e w' => e = .returned (.bool true) ∧ Gr w w' := by
  rcases ht with ⟨rfl, a, c, rfl⟩ | ⟨_, tb, to, tc, rfl, hc⟩
  · exact back_zero a c vv m ts vs hvs w hvv
  · by_cases h0 : n = 0
    · subst h0; exact back_zero _ _ vv m ts vs hvs w hvv
    · exact back_some tb to tc n vv m ts vs hvs hn (by omega) w hc hvv
end Go.Proofs.Ythdklnkaeddogab
