/-
 
-/
import Derived.Test.YtebkabidojipoaaExKcM
import Derived.Test.YtebkabidojipoaaMk12
import Derived.JoinedCond
import Derived.HandedShaped
import Derived.Test.YtebkabidojipoaaMk2
import Derived.Test.YtebkabidojipoaaMk20
namespace Go.Proofs.Ytebkabidojipoaa.lawExprKeeps
open Go.ChangeShapes Go.WideShapes Go.ChangeAt Go.WideMaps Go.WideElems Go.RowKit VecM LebM
theorem own : ownKnob Try.prog.godebug = none := by kernel_rfl
set_option maxRecDepth 100000 in
theorem lifted (os : Os) (started : os.Started) (H : Type) (enc : TypeId × Value → H) (F : Stop.Interp) :
  ReturnsInHanded {} Try.checked os 8 .any ((Rows.OpenSpec.upto Rows.exprKeepsSpec).pre6 enc Try.prog Try.f8 Rows.exprKeepsUptoRow.domain false) (((Rows.OpenSpec.upto Rows.exprKeepsSpec).at F).post enc Try.prog Try.f8 false true false false) := by
 refine Ex.handed_up (C := Try.checked) (s := Rows.OpenSpec.upto Rows.exprKeepsSpec) (k := Rows.uptoSmall) rfl own started (by kernel_rfl) Try.func8
  (OpenSpec.witness (enc := enc) (C := Try.checked) (s := Rows.OpenSpec.upto Rows.exprKeepsSpec) (k := Rows.uptoSmall) rfl false ⟨#[], #[.slice none 0 0], []⟩ 8 (by kernel_rfl) (by kernel_rfl) (by kernel_rfl)
   (x := ([.nil], [], [])) (by kernel_rfl) rfl (by kernel_rfl)) ?_
 intro W base args ds gs before hsh hval0 hW hk0
 have hcnd := hk0
 have hval : ∀ (j : Nat) t v, Try.f8.params[j]? = some t → args[j]? = some v → Value.okWide Try.prog W .any base t v := hval0
 have hW' := hW
 have hlt : ∀ x ∈ before, x.block < W.heap.size := fun x hx => by simpa using hW'.lt x hx
 obtain ⟨p, q, hA0, hV, hpq, hfz, hnd⟩ := hW
 have hA : DataW.TrodAll enc Try.prog W 0 (fun _ => true) true Try.f8.params.toList args.toList ds p := hA0
 rw [Try.params8] at hA hval
 obtain ⟨v0, vs0, d0, ds0, p0, q0, hargs, rfl, rfl, h0, r0⟩ := trodAll_cons hA
 obtain ⟨rfl, rfl, rfl⟩ := trodAll_nil r0
 obtain rfl : args = #[v0] := by cases args; simp_all
 obtain ⟨rfl, rfl⟩ := trodVars_none hV
 have HMX : Ins.Mx W := Try.laysM219.s1_3 W hsh
 have hbk := of_decide_eq_true hcnd
 simp only [List.append_nil, Rows.uptoBulkAll] at hbk
 have k0 := h0
 obtain ⟨n0, w0, s0, i0, z0⟩ := Ex.open_code2 (hval 0 24 v0 rfl rfl) h0
 refine (Ex.keeps_walk HMX w0 s0 i0 (by omega)).mono fun e W' ⟨he, hg⟩ => ?_
 subst he
 exact ⟨_, rfl, _, _, _, [], _, [], hW', (trodAll_cons_mk (shut_bool Try.underlying4 _) trodAll_mk0), (trodAll_cons_mk (Below.trod laidOut (by kernel_rfl) (of_decide_eq_true (by kernel_rfl)) k0 hg (fun x hx => hlt x (by rw [hpq]; simp [hx]))) trodAll_mk0), rfl, Below.frame hg _, fun h => by cases h⟩
theorem proved : Rows.ExprKeepsUptoSaid :=
 OpenClaim.holds_of_cond 8 Try.f8 rfl rfl rfl rfl rfl rfl rfl ⟨rfl, rfl, rfl, rfl, rfl⟩ rfl rfl rfl rfl rfl (by kernel_rfl) Try.func8 (by kernel_rfl)
  (of_decide_eq_true (by kernel_rfl)) (by unfold Func.isWrapper; first | (rw [if_pos (by decide +kernel)]; kernel_rfl) | (rw [if_neg (by decide +kernel)]; exact ⟨rfl, rfl⟩))
  (fun os started H enc _ F => lifted os started H enc F)
#print axioms proved
end Go.Proofs.Ytebkabidojipoaa.lawExprKeeps
