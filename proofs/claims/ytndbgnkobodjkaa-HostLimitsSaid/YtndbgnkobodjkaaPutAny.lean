/-
  Put and the reference's Put, of all types and values.
-/
import Derived.Test.YtndbgnkobodjkaaRPut
namespace Go.Proofs.Ytndbgnkobodjkaa
open Go.RowKit VecM
theorem put_zero (a a' : Option Addr) (c c' : Nat) (w : World) :
    Calls Try.prog 37 #[.slice a 0 c, .slice a' 0 c'] w fun e w' => e = .returned (.tuple #[.slice none 0 0, .int .i64 0]) ∧ Gr w w' := by
  have HC := Lib.hid (count_zero a c w)
  go_enter Try.func37, Try.ntmps37
  go_wp2_with (go_at_call 42; refine HC.out.mono ?_; rintro e w' ⟨rfl, rfl⟩)
  refine wp_loop_rounds 1 ?_
  rw [rounds_succ]
  go_wp2
  go_ret2
  exact ⟨rfl, Gr.refl _⟩
theorem rput_zero (a a' : Option Addr) (c c' : Nat) (w : World) :
    Calls Try.prog 33 #[.slice a 0 c, .slice a' 0 c'] w fun e w' => e = .returned (.tuple #[.slice none 0 0, .int .i64 0]) ∧ Gr w w' := by
  have HC := Lib.hid (width_zero a c w)
  go_enter Try.func33, Try.ntmps33
  go_wp2_with (go_at_call 31; refine HC.out.mono ?_; rintro e w' ⟨rfl, rfl⟩)
  refine wp_loop_rounds 1 ?_
  rw [rounds_succ]
  go_wp2
  go_ret2
  exact ⟨rfl, Gr.refl _⟩
theorem rput_no (tv vv : Value) (a : Option Addr) (tc n m : Nat) (n' : Option Addr) (vc : Nat) (ts : Nat → Int) (w : World) (htv : tv = .slice a n tc) (hvv : vv = .slice n' m vc) (hn : n ≤ 1099511627776) (ht : I64s w tv n ts) (h : ¬ (okT ts n ∧ n = m)) :
    Calls Try.prog 33 #[tv, vv] w fun e w' => e = .returned (.tuple #[.slice none 0 0, .int .i64 1]) ∧ Gr w w' := by
  have C := width_any tv n ts w hn ht
  subst htv hvv
  by_cases hnm : n = m
  · have ho : ¬ okT ts n := fun ho => h ⟨ho, hnm⟩
    rw [widI_no ho] at C
    have HC := Lib.hid C
    subst hnm
    clear C h ht ho
    go_enter Try.func33, Try.ntmps33
    go_wp2_with (go_at_call 31; refine HC.out.mono ?_; rintro e w' ⟨rfl, rfl⟩)
    go_ret2
    exact ⟨rfl, Gr.refl _⟩
  · have hne : ((n : Int) != (m : Int)) = true := by rw [bne_iff_ne]; intro e; exact hnm (by omega)
    clear C h ht
    go_enter Try.func33, Try.ntmps33
    go_wp2
    go_ret2
    exact ⟨rfl, Gr.refl _⟩
/-- the halves that Put gives, and its number -/
def putR (ts : Nat → Int) (vs : Nat → Nat → Int) (n m : Nat) : List Int := if okT ts n ∧ n = m then putL ts vs n else []
def putX (ts : Nat → Int) (n m : Nat) : Int := if okT ts n ∧ n = m then 0 else 1
theorem slice_i64s {w : World} {sv : Value} {n : Nat} {ts : Nat → Int} (h : I64s w sv n ts) : ∃ a c, sv = .slice a n c := by
  rcases h with ⟨rfl, x, c, rfl⟩ | ⟨_, b, o, c, rfl, _⟩
  · exact ⟨_, _, rfl⟩
  · exact ⟨_, _, rfl⟩
theorem slice_vecs {w : World} {sv : Value} {n : Nat} {ts : Nat → Nat → Int} (h : Vecs w sv n ts) : ∃ a c, sv = .slice a n c := by
  rcases h with ⟨rfl, x, c, rfl⟩ | ⟨_, b, o, c, rfl, _⟩
  · exact ⟨_, _, rfl⟩
  · exact ⟨_, _, rfl⟩
section
variable {tv vv : Value} {n m : Nat} {ts : Nat → Int} {vs : Nat → Nat → Int} {w : World}
theorem put_any (hvs : ∀ j, Byt (vs j)) (hn : n ≤ 1099511627776) (ht : I64s w tv n ts) (hv : Vecs w vv m vs) :
    Calls Try.prog 37 #[tv, vv] w fun e w' => ∃ sv, e = .returned (.tuple #[sv, .int .i64 (putX ts n m)]) ∧ Gr w w' ∧ w'.ownsRow w.heap.size 53 1 sv (putR ts vs n m).length (uvs (putR ts vs n m)) := by
  by_cases h : okT ts n ∧ n = m
  · rw [show putX ts n m = 0 by unfold putX; rw [if_pos h], show putR ts vs n m = putL ts vs n by unfold putR; rw [if_pos h]]
    obtain ⟨ho, rfl⟩ := h
    by_cases h0 : n = 0
    · subst h0
      obtain ⟨a, c, rfl⟩ := i64s_zero ht
      obtain ⟨a', c', rfl⟩ := vecs_zero hv
      exact (put_zero a a' c c' w).mono fun e w' h => ⟨_, h.1, h.2, World.ownsRow_nil _ _ _ _⟩
    · rcases ht with ⟨h, _⟩ | ⟨_, tb, to, tc, rfl, ht⟩
      · exact absurd h h0
      · rcases hv with ⟨h, _⟩ | ⟨_, b, off, cap, rfl, hc⟩
        · exact absurd h h0
        · exact put_some tb to tc b off cap n ts vs hvs w hn ho ht hc
  · rw [show putX ts n m = 1 by unfold putX; rw [if_neg h], show putR ts vs n m = [] by unfold putR; rw [if_neg h]]
    obtain ⟨a, c, e1⟩ := slice_i64s ht
    obtain ⟨a', c', e2⟩ := slice_vecs hv
    exact (put_no tv vv a c n m a' c' ts w e1 e2 hn ht h).mono fun e w' h => ⟨_, h.1, h.2, World.ownsRow_nil _ _ _ _⟩
theorem rput_any (hvs : ∀ j, Byt (vs j)) (hn : n ≤ 1099511627776) (ht : I64s w tv n ts) (hv : Vecs w vv m vs) :
    Calls Try.prog 33 #[tv, vv] w fun e w' => ∃ sv, e = .returned (.tuple #[sv, .int .i64 (putX ts n m)]) ∧ Gr w w' ∧ w'.ownsRow w.heap.size 53 1 sv (putR ts vs n m).length (uvs (putR ts vs n m)) := by
  by_cases h : okT ts n ∧ n = m
  · rw [show putX ts n m = 0 by unfold putX; rw [if_pos h], show putR ts vs n m = putL ts vs n by unfold putR; rw [if_pos h]]
    obtain ⟨ho, rfl⟩ := h
    by_cases h0 : n = 0
    · subst h0
      obtain ⟨a, c, rfl⟩ := i64s_zero ht
      obtain ⟨a', c', rfl⟩ := vecs_zero hv
      exact (rput_zero a a' c c' w).mono fun e w' h => ⟨_, h.1, h.2, World.ownsRow_nil _ _ _ _⟩
    · rcases ht with ⟨h, _⟩ | ⟨_, tb, to, tc, rfl, ht⟩
      · exact absurd h h0
      · rcases hv with ⟨h, _⟩ | ⟨_, b, off, cap, rfl, hc⟩
        · exact absurd h h0
        · exact rput_some tb to tc b off cap n ts vs hvs w hn ho ht hc
  · rw [show putX ts n m = 1 by unfold putX; rw [if_neg h], show putR ts vs n m = [] by unfold putR; rw [if_neg h]]
    obtain ⟨a, c, e1⟩ := slice_i64s ht
    obtain ⟨a', c', e2⟩ := slice_vecs hv
    exact (rput_no tv vv a c n m a' c' ts w e1 e2 hn ht h).mono fun e w' h => ⟨_, h.1, h.2, World.ownsRow_nil _ _ _ _⟩
end
end Go.Proofs.Ytndbgnkobodjkaa
