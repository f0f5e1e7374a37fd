/-
  Texts of this seat, joined: VcCut. Each says what it proves.
-/
import Derived.Test.YtjoalcaooccbiaaMk4
import Derived.Test.YtjoalcaooccbiaaMk9
/- VcCut -/
namespace Go.Proofs.Ytjoalcaooccbiaa
open Go.RowKit VecM Ev
namespace Vc
def setLast : List Rw → Rw → List Rw
 | [], r => [r]
 | [_], r => [r]
 | x :: y :: l, r => x :: setLast (y :: l) r
theorem setLast_mem : ∀ (M : List Rw) (r : Rw), r ∈ setLast M r
 | [], _r => List.mem_cons_self ..
 | [_], _r => List.mem_cons_self ..
 | _ :: y :: l, r => List.mem_cons_of_mem _ (setLast_mem (y :: l) r)
structure Gt where
 t : TypeId
 r : List Value
def gRow (m : Int) (t : Gt) : Rw := ⟨0, .int .i64 m :: t.r, t.t, false⟩
theorem g_start {w : World} {m : Int} (h : w.cell? ⟨0, 0, none⟩ = some (.int .i64 m)) : ∃ t, SG w [gRow m t] w := by
 unfold World.cell? at h
 split at h
 ·rename_i c t fr hc
  have h0 : c.toList[0]? = some (.int .i64 m) := by simpa using h
  obtain ⟨r, hr⟩ : ∃ r, c.toList = .int .i64 m :: r := by
   cases hl : c.toList with
   | nil => rw [hl] at h0; cases h0
   | cons x r => rw [hl] at h0; cases h0; exact ⟨r, rfl⟩
  refine ⟨⟨t, r⟩, St.start w, fun q hq _ => ?_⟩
  obtain rfl := List.mem_singleton.1 hq
  exact ⟨fr, by rw [show (gRow m ⟨t, r⟩).c.toArray = c by show (Value.int .i64 m :: r).toArray = c; rw [← hr]]; exact hc⟩
 ·cases h
def colon (b : ByteArray) : Bool := match b.data.toList with
 | [x] => Nat.beq x.toNat 58
 | _ => false
theorem colon_eq {b : ByteArray} (h : colon b = true) : b = ⟨#[58]⟩ := by
 unfold colon at h
 split at h
 ·rename_i x hx
  have hx2 : x = 58 := by
   have := Nat.eq_of_beq_eq_true h
   exact UInt8.toNat_inj.1 this
  subst hx2
  obtain ⟨d⟩ := b
  simp only at hx
  congr 1
  apply Array.ext'
  rw [hx]
 ·cases h
noncomputable def cutS (m : Int) (t : Gt) (f : FuncId) (args : List Value) (M : List Rw) : Option CHole :=
 match Nat.beq f 29 with
 | false => none
 | true => match args with
  | [.string s, .string sep] => some ⟨setLast M (gRow m t), [colon sep, Nat.blt s.data.toList.length 4294967281], 0, fun _ => .tuple #[.string ⟨(Lib.cut s.data.toList [58]).1.toArray⟩, .string ⟨(Lib.cut s.data.toList [58]).2.1.toArray⟩, .bool (Lib.cut s.data.toList [58]).2.2], fun _ => []⟩
  | _ => none
theorem cutS_ok (m : Int) (t : Gt) : ∀ f args M H, cutS m t f args M = some H → M = H.rows → (∀ b ∈ H.pre, b = true) → ∀ w0 w : World, SG w0 M w → Calls Try.prog f args.toArray w fun e w' => ∃ fr : List Fr, fr.length = H.n ∧ e = .returned (H.v fr) ∧ SG w0 (H.lay fr ++ M) w' := by
 intro f args M H hq hrows hpre w0 w hS
 unfold cutS at hq
 split at hq
 ·cases hq
 ·rename_i hf
  obtain rfl := Nat.eq_of_beq_eq_true hf
  split at hq
  ·cases hq
   obtain rfl := colon_eq (hpre _ (List.mem_cons_self ..))
   have hl := (blt_iff _ _).1 (hpre _ (List.mem_cons_of_mem _ (List.mem_cons_self ..)))
   have hm : gRow m t ∈ M := by
    have := setLast_mem M (gRow m t)
    simp only at hrows
    rw [← hrows] at this
    exact this
   obtain ⟨fr, hrow, _⟩ := hS.row hm
   have hc : w.cell? ⟨0, 0, none⟩ = some (.int .i64 m) := (cell_of_row w 0 0 _ _ fr hrow).trans rfl
   exact (Try.strings_Cut _ ⟨#[58]⟩ m w (by simpa using hl) hc).mono fun e w' ⟨h, n, hn⟩ => ⟨[], rfl, h, hS.grow (hn ▸ (Gr.refl w).drewN n)⟩
  ·cases hq
noncomputable def envV (m : Int) (t : Gt) : Env := { P := Try.prog, known := [], sum := fun _ _ => none, csum := cutS m t }
theorem envV_ok (m : Int) (t : Gt) : OphOk (envV m t) := csum_of rfl (cutS_ok m t)
end Vc
end Go.Proofs.Ytjoalcaooccbiaa
