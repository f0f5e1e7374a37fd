/-
  Stage 2's awake: the answers that the document fixes by number.
-/
import Derived.Test.YtndbgnkobodjkaaPut
import Derived.Test.YtndbgnkobodjkaaNet
namespace Go.Proofs.Ytndbgnkobodjkaa
open Go.RowKit VecM
namespace Aw
def f1 : Nat → Int := fun j => if j = 0 then 1 else 2
def b1 : Nat → Int := ofK (fun _ => 0) 32 f1 (ofN 32 2)
def f2 : Nat → Int := fun _ => 1099511627783
def b2 : Nat → Int := ofK (fun _ => 0) 64 f2 (ofN 64 1)
def ts : Nat → Int := fun j => if j = 0 then 123 else 127
def vs : Nat → Nat → Int := fun j => if j = 0 then b1 else b2
def fx : Nat → Int := fun j => if j = 0 then 8589934593 else if j = 1 then 0 else 7
theorem b1_byt : Byt b1 := ofK_byt (fun _ => ⟨by decide, by decide⟩) _ _ _
theorem b2_byt : Byt b2 := ofK_byt (fun _ => ⟨by decide, by decide⟩) _ _ _
theorem vs_byt : ∀ j, Byt (vs j) := fun j => by
  unfold vs; split
  · exact b1_byt
  · exact b2_byt
theorem ts_ok : okT ts 2 := by
  intro j hj
  match j, hj with
  | 0, _ => decide
  | 1, _ => decide
theorem putL_eq : putL ts vs 2 = [8589934593, 0, 7] := by decide +kernel
theorem u64s3 : uvs [8589934593, 0, 7] = u64s fx 3 := rfl
def Φ (k : Nat) (v : Value) (w : World) : Prop :=
  match k with
  | 0 => I64s w v 2 ts
  | 1 => v = .agg (bs b1)
  | 2 => U64s w v 1 f2
  | 3 => v = .agg (bs b2)
  | 4 => Vecs w v 2 vs
  | 5 => ∃ sv, v = .tuple #[sv, .int .i64 0] ∧ U64s w sv 3 fx
  | 6 => ∃ sv, v = .tuple #[sv, .int .i64 0] ∧ U64s w sv 3 fx
  | 7 => U64s w v 3 fx
  | 8 => v = .int .i64 0
  | 9 => U64s w v 3 fx
  | 10 => v = .int .i64 0
  | _ => True
theorem Φ_mono : ∀ k v w w', Gr w w' → Φ k v w → Φ k v w' := by
  intro k v w w' hg h
  match k with
  | 0 => exact i64s_gr h hg
  | 1 => exact h
  | 2 => exact u64s_gr h hg
  | 3 => exact h
  | 4 => exact vecs_gr h hg
  | 5 => obtain ⟨sv, h1, h2⟩ := h; exact ⟨sv, h1, u64s_gr h2 hg⟩
  | 6 => obtain ⟨sv, h1, h2⟩ := h; exact ⟨sv, h1, u64s_gr h2 hg⟩
  | 7 => exact u64s_gr h hg
  | 8 => exact h
  | 9 => exact u64s_gr h hg
  | 10 => exact h
  | k + 11 => trivial
theorem awake_put (tv vv : Value) (w : World) (ht : I64s w tv 2 ts) (hv : Vecs w vv 2 vs) :
    Calls Try.prog 37 #[tv, vv] w fun e w' => ∃ u, e = .returned u ∧ Φ 5 u w' ∧ Gr w w' := by
  rcases ht with ⟨h, _⟩ | ⟨_, tb, to, tc, rfl, ht⟩
  · cases h
  rcases hv with ⟨h, _⟩ | ⟨_, b, off, cap, rfl, hv⟩
  · cases h
  refine (put_some tb to tc b off cap 2 ts vs vs_byt w (by decide) ts_ok ht hv).mono fun e w' ⟨sv, he, hg, ho⟩ => ⟨_, he, ⟨sv, rfl, ?_⟩, hg⟩
  rw [putL_eq, u64s3] at ho
  exact u64s_of_owns ho
theorem awake_of1 (sv : Value) (w : World) (h : U64s w sv 2 f1) : Calls Try.prog 43 #[.int .i64 32, sv] w fun e w' => e = .returned (.agg (bs b1)) ∧ Gr w w' := of_any 32 sv 2 f1 w h
theorem awake_of2 (sv : Value) (w : World) (h : U64s w sv 1 f2) : Calls Try.prog 43 #[.int .i64 64, sv] w fun e w' => e = .returned (.agg (bs b2)) ∧ Gr w w' := of_any 64 sv 1 f2 w h
theorem get_b1 : getI b1 64 0 = 8589934593 ∧ getI b1 64 1 = 0 := by decide +kernel
def f3 : Nat → Int := fun _ => 255
def b3 : Nat → Int := ofK (fun _ => 0) 8 f3 (ofN 8 1)
theorem b3_byt : Byt b3 := ofK_byt (fun _ => ⟨by decide, by decide⟩) _ _ _
theorem sgn_b3 : sgnI b3 8 0 = -1 := by decide +kernel
theorem awake_of3 (sv : Value) (w : World) (h : U64s w sv 1 f3) : Calls Try.prog 43 #[.int .i64 8, sv] w fun e w' => e = .returned (.agg (bs b3)) ∧ Gr w w' := of_any 8 sv 1 f3 w h
end Aw
end Go.Proofs.Ytndbgnkobodjkaa
