/-
  HostTurns: for all replies, numbers to take and gives the law returns true (where what is handed in has a bulk of no more than 2^20).
-/
import Derived.Test.YtndbgnkobodjkaaHsT
import Derived.Test.YtndbgnkobodjkaaHsOu
import Derived.JoinedCond

namespace Go.Proofs.Ytndbgnkobodjkaa.lawHostTurns
open Go.ChangeShapes Go.WideShapes Go.ChangeAt Go.WideMaps Go.WideElems Go.RowKit VecM Hs
theorem own : ownKnob Try.prog.godebug = none := by kernel_rfl
set_option maxRecDepth 100000 in
theorem lifted (os : Os) (started : os.Started) (H : Type) (enc : TypeId × Value → H) (F : Stop.Interp) :
    ReturnsInHanded {} Try.checked os 4 .any ((Rows.OpenSpec.upto Rows.hostTurnsSpec).pre6 enc Try.prog Try.f4 Rows.hostTurnsUptoRow.domain false) (((Rows.OpenSpec.upto Rows.hostTurnsSpec).at F).post enc Try.prog Try.f4 false true false false) := by
  refine returnsInHanded_of_cond (C := Try.checked) (s := Rows.OpenSpec.upto Rows.hostTurnsSpec) (k := Rows.uptoSmall) rfl own started (by kernel_rfl) Try.func4
    (OpenSpec.witness (enc := enc) (C := Try.checked) (s := Rows.OpenSpec.upto Rows.hostTurnsSpec) (k := Rows.uptoSmall) rfl false ⟨#[], #[.slice none 0 0, .slice none 0 0, .slice none 0 0], []⟩ 8 (by kernel_rfl) (by kernel_rfl) (by kernel_rfl)
      (x := ([.nil, .nil, .nil], [], [])) (by kernel_rfl) rfl (by kernel_rfl)) ?_
  intro W base args ds gs before hval0 hW _ hk0 _
  have hcnd := hk0
  have hval : ∀ (j : Nat) t v, Try.f4.params[j]? = some t → args[j]? = some v → Value.okWide Try.prog W .any base t v := hval0
  have hW' := hW
  have hlt : ∀ x ∈ before, x.block < W.heap.size := fun x hx => by simpa using hW'.lt x hx
  obtain ⟨p, q, hA0, hV, hpq, hfz, hnd⟩ := hW
  have hA : DataW.TrodAll enc Try.prog W 0 (fun _ => true) true Try.f4.params.toList args.toList ds p := hA0
  rw [Try.params4] at hA hval
  obtain ⟨v0, vs0, d0, ds0, p0, q0, hargs, rfl, rfl, h0, r0⟩ := trodAll_cons hA
  obtain ⟨v1, vs1, d1, ds1, p1, q1, rfl, rfl, rfl, h1, r1⟩ := trodAll_cons r0
  obtain ⟨v2, vs2, d2, ds2, p2, q2, rfl, rfl, rfl, h2, r2⟩ := trodAll_cons r1
  obtain ⟨rfl, rfl, rfl⟩ := trodAll_nil r2
  obtain rfl : args = #[v0, v1, v2] := by cases args; simp_all
  obtain ⟨rfl, rfl⟩ := trodVars_none hV
  have hbk := of_decide_eq_true hcnd
  simp only [List.append_nil, Rows.uptoBulkAll] at hbk
  have k0 := h0
  obtain ⟨n0, w0, s0⟩ := open_uz (hval 0 22 v0 rfl rfl) h0
  have l0 : n0.length ≤ 1048576 := by obtain ⟨_, _, e⟩ := us_slice s0.1; have := trod_bulk Try.underlying22 (e ▸ h0); omega
  have k1 := h1
  obtain ⟨n1, w1, s1⟩ := open_us (hval 1 22 v1 rfl rfl) h1
  have l1 : n1.length ≤ 1048576 := by obtain ⟨_, _, e⟩ := us_slice s1; have := trod_bulk Try.underlying22 (e ▸ h1); omega
  have k2 := h2
  obtain ⟨n2, g2, w2, s2⟩ := open_u8n (hval 2 49 v2 rfl rfl) h2
  have l2 : n2 ≤ 1048576 := by obtain ⟨_, _, e⟩ := u8g_slice s2; have := trod_bulk Try.underlying49 (e ▸ h2); omega
  refine (Hs.turns_law (w := W) l0 l1 w0 w1 w2 l2 s0 s1 s2).mono fun e W' ⟨he, hg⟩ => ?_
  subst he
  exact ⟨_, rfl, _, _, _, [], _, [], hW', (trodAll_cons_mk (shut_bool Try.underlying4 _) trodAll_mk0), (trodAll_cons_mk (Below.trod laidOut (by kernel_rfl) (of_decide_eq_true (by kernel_rfl)) k0 hg (fun x hx => hlt x (by rw [hpq]; simp [hx]))) (trodAll_cons_mk (Below.trod laidOut (by kernel_rfl) (of_decide_eq_true (by kernel_rfl)) k1 hg (fun x hx => hlt x (by rw [hpq]; simp [hx]))) (trodAll_cons_mk (Below.trod laidOut (by kernel_rfl) (of_decide_eq_true (by kernel_rfl)) k2 hg (fun x hx => hlt x (by rw [hpq]; simp [hx]))) trodAll_mk0))), rfl, Below.frame hg _, fun h => by cases h⟩
theorem proved : Rows.HostTurnsUptoSaid :=
  OpenClaim.holds_of_cond 4 Try.f4 rfl rfl rfl rfl rfl rfl rfl ⟨rfl, rfl, rfl, rfl, rfl⟩ rfl rfl rfl rfl rfl (by kernel_rfl) Try.func4 (by kernel_rfl)
    (of_decide_eq_true (by kernel_rfl)) (by unfold Func.isWrapper; first | (rw [if_pos (by decide +kernel)]; kernel_rfl) | (rw [if_neg (by decide +kernel)]; exact ⟨rfl, rfl⟩))
    (fun os started H enc _ F => lifted os started H enc F)
#print axioms proved
end Go.Proofs.Ytndbgnkobodjkaa.lawHostTurns
