/-
  Texts of this seat, joined: ExUp. Each says what it proves.
-/
import Derived.Test.YtebkabidojipoaaMk11
import Derived.JoinedCond
import Derived.HandedShaped
/- ExUp -/
namespace Go.Proofs.Ytebkabidojipoaa
open Go.RowKit LebM Go.ChangeShapes Go.WideShapes
namespace Ex
theorem handed_up {H : Type} {enc : TypeId × Value → H} {C : Checked} {os : Os} {f : FuncId} {fn : Func} {s : OpenSpec} {k : (H : Type) → List (DataW H) → Bool} {F : Stop.Interp} {cs : List PathCond} {p q r t : Bool} {ass : Assume}
  (hk : s.cond = some k) (own : ownKnob C.prog.godebug = none) (started : os.Started) (noInit : C.prog.inits.idxOf? f = none) (hfn : C.prog.funcs[f]? = some fn)
  (wit : ∃ (w : World) (tape : Tape) (i : Input), w.os = os ∧ (w.forCall tape i).Shaped C.prog ∧ i.vars = [] ∧ Input.okWide C.prog (w.forCall tape i) .any w.heap.size f i ∧
   s.pre6 enc C.prog fn cs p (w.forCall tape i).memory i.args ∧ ass.holds C.prog (lone (Frame.enter C.prog f i.args .normal) [] (w.forCall tape i)))
  (con : ∀ (W : World) (base : Nat) (args : Array Value) (ds gs : List (DataW H)) (before : List MemPlace), W.ShapedOpen C.prog →
   (∀ (j : Nat) u v, fn.params[j]? = some u → args[j]? = some v → Value.okWide C.prog W .any base u v) →
   DataW.Whole enc C.prog fn.params.toList s.vars p W args.toList ds gs before → k H (ds ++ gs) = true →
   Calls C.prog f args W fun e W' => ∃ v, e = .returned v ∧ (s.at F).post enc C.prog fn p q r t W args v W') :
  ReturnsInHanded ass C os f .any (s.pre6 enc C.prog fn cs p) ((s.at F).post enc C.prog fn p q r t) :=
 returnsInHanded_of_calls own started noInit wit fun w tape i _ hsh _ hok hpre _ => by
  obtain ⟨-, -, -, g, hg, -, -, -, -, hv⟩ := hok
  cases hfn.symm.trans hg
  obtain ⟨ds, gs, before, hw, -, hc⟩ := (OpenSpec.pre_some hk cs p _ _).1 hpre.1
  exact (con (w.forCall tape i) w.heap.size i.args ds gs before hsh hv (DataW.Whole.of_heap (w' := w.forCall tape i) (by rfl) hw) hc).mono
   fun e W' ⟨v, he, hp⟩ => by cases he; exact ChangeSpec.post_blind hp
end Ex
end Go.Proofs.Ytebkabidojipoaa
