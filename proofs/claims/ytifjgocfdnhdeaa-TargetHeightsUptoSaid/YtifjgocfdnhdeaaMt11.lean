/-
  Texts of this seat, joined: TgOp. Each says what it proves.
-/
import Derived.Test.YtifjgocfdnhdeaaMt9
import Derived.Test.YtifjgocfdnhdeaaMt10
import Derived.ChangeSame
import Derived.JoinedCond
/- TgOp -/
namespace Go.Proofs.Ytifjgocfdnhdeaa
open Go.RowKit Go.ChangeShapes Go.WideShapes
namespace Tg
theorem bulk_len {H : Type} : ∀ l : List (DataW H), l.length ≤ Rows.uptoBulkAll l
 | [] => by simp [Rows.uptoBulkAll]
 | x :: r => by
  have h1 := bulk_len r
  have h2 : 1 ≤ Rows.uptoBulk x := by
   cases x with
   | lit l => cases l <;> simp [Rows.uptoBulk]
   | nil => simp [Rows.uptoBulk]
   | ptr d => simp [Rows.uptoBulk]
   | slice elems spare => simp [Rows.uptoBulk]
   | agg parts => simp [Rows.uptoBulk]
   | iface t d => simp [Rows.uptoBulk]
   | map entries => simp [Rows.uptoBulk]
   | held h => simp [Rows.uptoBulk]
  simp only [Rows.uptoBulkAll, List.length_cons]; omega
theorem bulk_mem {H : Type} : ∀ (l : List (DataW H)) (d : DataW H), d ∈ l → Rows.uptoBulk d ≤ Rows.uptoBulkAll l
 | [], _, h => by cases h
 | x :: r, d, h => by
  rcases List.mem_cons.1 h with rfl | h
  ·simp only [Rows.uptoBulkAll]; omega
  ·have := bulk_mem r d h
   simp only [Rows.uptoBulkAll]; omega
theorem one_of {L : List Value} {a : Nat} {u : Value} (h : (L.drop a).take 1 = [u]) : L[a]? = some u := by
 have h2 := congrArg (·[0]?) h
 simp only [List.getElem?_take_of_lt (show 0 < 1 by decide), List.getElem?_drop, Nat.add_zero] at h2
 exact h2
def NilZ (v : Value) : Prop := ∀ n c, v = .slice none n c → n = 0 ∧ c = 0
theorem open_rows {H : Type} {enc : TypeId × Value → H} {W : World} {α : Type} (g : α → Array Value) (z : Nat) (hz : ∀ x, (g x).size = z) (h0 : 0 < z) {ts te : TypeId} (ht : Try.prog.underlying ts = some (.slice te)) (hce : Try.prog.cellsOf te = z) (Q : α → Nat → Prop)
  (hel : ∀ fuel cs (y : DataW H × List MemPlace), DataW.trod enc Try.prog W 0 (fun _ => true) true fuel te cs = some y → ∃ x, cs = (g x).toList ∧ Q x (Rows.uptoBulk y.1))
  {fuel : Nat} {cs : List Value} {y : DataW H × List MemPlace} (h : DataW.trod enc Try.prog W 0 (fun _ => true) true fuel ts cs = some y) :
  ∃ v l, cs = [v] ∧ RwR W v l.length (flat g l) ∧ l.length + 1 ≤ Rows.uptoBulk y.1 ∧ (∀ x ∈ l, ∃ b, b ≤ Rows.uptoBulk y.1 ∧ Q x b) ∧ NilZ v := by
 rcases DataW.trod_slice ht h with ⟨rfl, rfl⟩ | ⟨a, len, cap, elems, rest, n, _, rfl, rfl, _, hl, hm, hlen, he, _, _⟩
 ·exact ⟨_, [], rfl, ⟨none, 0, rfl, fun j u hu => by cases hu⟩, by simp [Rows.uptoBulk], (fun x hx => by cases hx), (fun n c e => by injection e with _ e1 e2; exact ⟨e1.symm, e2.symm⟩)⟩
 ·rw [hce] at he
  have key : ∀ m, m ≤ len → ∃ l : List α, l.length = m ∧ (∀ x ∈ l, ∃ b, b ≤ Rows.uptoBulkAll (elems.map (·.1)) ∧ Q x b) ∧ ∀ (k : Nat) x, l[k]? = some x → ∀ i u, (g x)[i]? = some u → W.cell? ((a.add (k * z)).add i) = some u := by
   intro m
   induction m with
   | zero => exact fun _ => ⟨([] : List α), rfl, (fun x hx => by cases hx), (fun k x hk => by simp at hk)⟩
   | succ m ih =>
    intro hm1
    obtain ⟨l, hll, hq, hc⟩ := ih (by omega)
    have h1 := he m (by omega)
    rw [List.getElem?_eq_getElem (by omega), Option.bind_eq_some_iff] at h1
    obtain ⟨cs, hcs, hy⟩ := h1
    have hsp := World.cells?_some hcs
    obtain ⟨x, rfl, hQ⟩ := hel _ _ _ hy
    refine ⟨l ++ [x], by simp [hll], fun x' hx' => ?_, fun k x' hk i u hu => ?_⟩
    ·rcases List.mem_append.1 hx' with h | h
     ·exact hq x' h
     ·obtain rfl := List.mem_singleton.1 h
      exact ⟨_, bulk_mem (elems.map (·.1)) _ (List.mem_map_of_mem (List.getElem_mem (by omega))), hQ⟩
    ·by_cases hkm : k < m
     ·rw [List.getElem?_append_left (by omega)] at hk
      exact hc k x' hk i u hu
     ·have hk2 := (List.getElem?_eq_some_iff.1 hk).1
      simp only [List.length_append, List.length_singleton] at hk2
      obtain rfl : k = m := by omega
      rw [List.getElem?_append_right (by omega), hll, Nat.sub_self] at hk
      obtain rfl : x = x' := by simpa using hk
      have hi := (Array.getElem?_eq_some_iff.1 hu).1
      rw [hz] at hi
      rw [hsp.2.2 i hi, Array.getElem?_toList]
      exact hu
  obtain ⟨l, hll, hq, hc⟩ := key len (Nat.le_refl _)
  refine ⟨_, l, by rw [hll], ⟨some a, cap, rfl, fun j u hu => ?_⟩, ?_, fun x hx => ?_, fun n c e => by cases e⟩
  ·have hj := (List.getElem?_eq_some_iff.1 hu).1
   have hfl : ∀ l : List α, (flat g l).length = l.length * z := fun l => by
    induction l with
    | nil => simp [flat]
    | cons x r ih => rw [flat, List.length_append, ih, Array.length_toList, hz, List.length_cons, Nat.add_mul, Nat.one_mul, Nat.add_comm]
   rw [hfl] at hj
   have hq0 : j / z < l.length := Nat.div_lt_of_lt_mul (by rw [Nat.mul_comm]; exact hj)
   have hm0 : j % z < z := Nat.mod_lt _ h0
   obtain ⟨x, hx⟩ : ∃ x, l[j / z]? = some x := ⟨_, List.getElem?_eq_getElem hq0⟩
   have e1 : j / z * z + j % z = j := Nat.div_add_mod' j z
   have h6 := flat_at g z hz l (j / z) x (j % z) hx hm0
   rw [e1] at h6
   rw [h6] at hu
   have h7 := hc _ x hx _ u hu
   obtain ⟨x0, hx0⟩ : ∃ x, l[0]? = some x := ⟨_, List.getElem?_eq_getElem (Nat.lt_of_le_of_lt (Nat.zero_le _) hq0)⟩
   have h8 := hc 0 x0 hx0 0 _ (Array.getElem?_eq_getElem (by rw [hz]; exact h0))
   obtain ⟨b, off, spot⟩ := a
   have hspot : spot = none := by simpa [Addr.add] using World.cell?_spot h8
   subst hspot
   rw [add_at, add_at, Nat.add_assoc, e1] at h7
   exact ⟨b, off, rfl, h7⟩
  ·have := bulk_len (elems.map (·.1))
   simp only [Rows.uptoBulk]
   rw [List.length_map] at this
   omega
  ·obtain ⟨b, hb, hQ⟩ := hq x hx
   exact ⟨b, by simp only [Rows.uptoBulk]; omega, hQ⟩
theorem flat_ivs : ∀ l : List Int, flat (fun x : Int => #[Value.int .i64 x]) l = ivs l
 | [] => rfl
 | x :: r => by
  rw [flat, flat_ivs r]
  rfl
theorem open_iv {H : Type} {enc : TypeId × Value → H} {W : World} {fuel : Nat} {cs : List Value} {y : DataW H × List MemPlace} (h : DataW.trod enc Try.prog W 0 (fun _ => true) true fuel 25 cs = some y) :
  ∃ v l, cs = [v] ∧ RwR W v l.length (ivs l) ∧ l.length + 1 ≤ Rows.uptoBulk y.1 := by
 obtain ⟨v, l, h1, h2, h3, _⟩ := open_rows (fun x : Int => #[Value.int .i64 x]) 1 (fun _ => rfl) (by decide) Try.underlying25 (by kernel_rfl) (fun _ _ => True) (fun fuel cs y hy => by
  obtain ⟨x, e, _, _⟩ := DataW.trod_int Try.underlying3 hy
  exact ⟨x, e, trivial⟩) h
 exact ⟨v, l, h1, flat_ivs l ▸ h2, h3⟩
theorem cellsSi : Try.prog.cellsOf 53 = 2 := by kernel_rfl
theorem cellsCe : Try.prog.cellsOf 47 = 3 := by kernel_rfl
theorem cellsFn : Try.prog.cellsOf 39 = 7 := by kernel_rfl
theorem cellsPr : Try.prog.cellsOf 34 = 2 := by kernel_rfl
theorem list2 {L : List Value} {a b : Value} (h : L.length = 2) (h0 : L[0]? = some a) (h1 : L[1]? = some b) : L = [a, b] := by
 match L, h with
 | [x, y], _ => simp at h0 h1; rw [h0, h1]
theorem list3 {L : List Value} {a b c : Value} (h : L.length = 3) (h0 : L[0]? = some a) (h1 : L[1]? = some b) (h2 : L[2]? = some c) : L = [a, b, c] := by
 match L, h with
 | [x, y, z], _ => simp at h0 h1 h2; rw [h0, h1, h2]
theorem list7 {L : List Value} {a b c d e f m : Value} (h : L.length = 7) (h0 : L[0]? = some a) (h1 : L[1]? = some b) (h2 : L[2]? = some c) (h3 : L[3]? = some d) (h4 : L[4]? = some e) (h5 : L[5]? = some f) (h6 : L[6]? = some m) : L = [a, b, c, d, e, f, m] := by
 match L, h with
 | [_, _, _, _, _, _, _], _ => simp at h0 h1 h2 h3 h4 h5 h6; rw [h0, h1, h2, h3, h4, h5, h6]
set_option maxRecDepth 100000 in
theorem open_si {H : Type} {enc : TypeId × Value → H} {W : World} {fuel : Nat} {cs : List Value} {y : DataW H × List MemPlace} (h : DataW.trod enc Try.prog W 0 (fun _ => true) true fuel 53 cs = some y) :
  ∃ s : SiV, cs = (siA s).toList ∧ RwR W s.iv s.s.i.length (ivs s.s.i) ∧ RwR W s.ov s.s.o.length (ivs s.s.o) ∧ s.s.i.length ≤ Rows.uptoBulk y.1 ∧ s.s.o.length ≤ Rows.uptoBulk y.1 := by
 obtain ⟨xs, m, rfl, rfl, hl, hn, hall⟩ := DataW.trod_struct Try.underlying53 h
 rw [cellsSi] at hl
 have hn2 : xs.length = 2 := hn
 have h0 := hall 0 _ rfl
 have h1 := hall 1 _ rfl
 clear hall
 rw [List.getElem?_eq_getElem (by omega)] at h0 h1
 obtain ⟨iv, li, e0, r0, b0⟩ := open_iv h0
 obtain ⟨ov, lo, e1, r1, b1⟩ := open_iv h1
 have m0 := bulk_mem (xs.map (·.1)) xs[0].1 (List.mem_map_of_mem (List.getElem_mem (by omega)))
 have m1 := bulk_mem (xs.map (·.1)) xs[1].1 (List.mem_map_of_mem (List.getElem_mem (by omega)))
 refine ⟨⟨⟨li, lo⟩, iv, ov⟩, list2 hl (one_of (a := 0) e0) (one_of (a := 1) e1), r0, r1, ?_, ?_⟩
 ·simp only [Rows.uptoBulk]; omega
 ·simp only [Rows.uptoBulk]; omega
set_option maxRecDepth 100000 in
theorem open_ce {H : Type} {enc : TypeId × Value → H} {W : World} {fuel : Nat} {cs : List Value} {y : DataW H × List MemPlace} (h : DataW.trod enc Try.prog W 0 (fun _ => true) true fuel 47 cs = some y) :
  ∃ c : Ce, cs = (ceA c).toList ∧ CeB c := by
 obtain ⟨xs, m, rfl, rfl, hl, hn, hall⟩ := DataW.trod_struct Try.underlying47 h
 rw [cellsCe] at hl
 have hn3 : xs.length = 3 := hn
 have h0 := hall 0 _ rfl
 have h1 := hall 1 _ rfl
 have h2 := hall 2 _ rfl
 clear hall
 rw [List.getElem?_eq_getElem (by omega)] at h0 h1 h2
 obtain ⟨z0, e0, _, w0⟩ := DataW.trod_int Try.underlying3 h0
 obtain ⟨z1, e1, _, w1⟩ := DataW.trod_int Try.underlying3 h1
 obtain ⟨z2, e2, _, w2⟩ := DataW.trod_int Try.underlying45 h2
 have b2 := bounds_u64 w2
 exact ⟨⟨z0, z1, z2⟩, list3 hl (one_of (a := 0) e0) (one_of (a := 1) e1) (one_of (a := 2) e2), ⟨bounds_i64 w0, bounds_i64 w1, ⟨b2.1, by have := b2.2; dsimp only; omega⟩⟩⟩
set_option maxRecDepth 100000 in
theorem open_fn {H : Type} {enc : TypeId × Value → H} {W : World} {fuel : Nat} {cs : List Value} {y : DataW H × List MemPlace} (h : DataW.trod enc Try.prog W 0 (fun _ => true) true fuel 39 cs = some y) :
  ∃ f : FuV, cs = (fuA f).toList ∧ (f.f.cs.length ≤ 1099511627776 → FuR W f) ∧ f.f.cs.length ≤ Rows.uptoBulk y.1 ∧ NilZ f.cv := by
 obtain ⟨xs, m, rfl, rfl, hl, hn, hall⟩ := DataW.trod_struct Try.underlying39 h
 rw [cellsFn] at hl
 have hn7 : xs.length = 7 := hn
 have h0 := hall 0 _ rfl
 have h1 := hall 1 _ rfl
 have h2 := hall 2 _ rfl
 have h3 := hall 3 _ rfl
 have h4 := hall 4 _ rfl
 have h5 := hall 5 _ rfl
 have h6 := hall 6 _ rfl
 clear hall
 rw [List.getElem?_eq_getElem (by omega)] at h0 h1 h2 h3 h4 h5 h6
 obtain ⟨z0, e0, _, w0⟩ := DataW.trod_int Try.underlying3 h0
 obtain ⟨z1, e1, _, w1⟩ := DataW.trod_int Try.underlying3 h1
 obtain ⟨z2, e2, _, w2⟩ := DataW.trod_int Try.underlying3 h2
 obtain ⟨z3, e3, _, w3⟩ := DataW.trod_int Try.underlying3 h3
 obtain ⟨z4, e4, _, w4⟩ := DataW.trod_int Try.underlying3 h4
 obtain ⟨cv, l, e5, r5, b5, q5, z5⟩ := open_rows ceA 3 (fun _ => rfl) (by decide) Try.underlying37 cellsCe (fun c _ => CeB c) (fun fuel cs y hy => open_ce hy) h5
 obtain ⟨mv, lm, e6, r6, _⟩ := open_iv h6
 have m5 := bulk_mem (xs.map (·.1)) xs[5].1 (List.mem_map_of_mem (List.getElem_mem (by omega)))
 refine ⟨⟨⟨z0, z1, z2, z3, z4, l⟩, cv, mv⟩, list7 hl (one_of (a := 0) e0) (one_of (a := 1) e1) (one_of (a := 2) e2) (one_of (a := 3) e3) (one_of (a := 4) e4) (one_of (a := 5) e5) (one_of (a := 6) e6), fun hlen => ⟨r5, ?_, hlen, bounds_i64 w0, bounds_i64 w1, bounds_i64 w2, bounds_i64 w3, bounds_i64 w4, fun c hc => (q5 c hc).elim fun _ h => h.2⟩, ?_, z5⟩
 ·obtain ⟨x, c, e, _⟩ := r6
  exact ⟨x, _, c, e⟩
 ·simp only [Rows.uptoBulk]
  omega
set_option maxRecDepth 100000 in
theorem open_prog {H : Type} {enc : TypeId × Value → H} {W : World} {r : Reach} {base : Nat} {v : Value} {d : DataW H} {p : List MemPlace}
  (hok : Value.okWide Try.prog W r base 34 v) (h : DataW.Trod enc Try.prog W 0 (fun _ => true) true 34 v d p) (hb : Rows.uptoBulk d ≤ 1048576) :
  ∃ (sv fv : Value) (P : Pr), v = .agg #[sv, fv] ∧ PrR W sv fv P ∧ SmP P ∧ ∀ f ∈ P.fs, NilZ f.cv := by
 obtain ⟨cs, rfl, hsz⟩ := okWide_struct Try.underlying34 hok
 rw [cellsPr] at hsz
 obtain ⟨fuel, hf⟩ := h
 obtain ⟨xs, m, rfl, hx, hl, hn, hall⟩ := DataW.trod_struct Try.underlying34 hf
 have hn2 : xs.length = 2 := hn
 have h0 := hall 0 _ rfl
 have h1 := hall 1 _ rfl
 clear hall
 rw [List.getElem?_eq_getElem (by omega)] at h0 h1
 simp only [Value.cells] at h0 h1
 obtain ⟨sv, ss, e0, r0, b0, q0, _⟩ := open_rows siA 2 (fun _ => rfl) (by decide) Try.underlying31 cellsSi (fun s b => RwR W s.iv s.s.i.length (ivs s.s.i) ∧ RwR W s.ov s.s.o.length (ivs s.s.o) ∧ s.s.i.length ≤ b ∧ s.s.o.length ≤ b) (fun fuel cs y hy => open_si hy) h0
 obtain ⟨fv, fs, e1, r1, b1, q1, _⟩ := open_rows fuA 7 (fun _ => rfl) (by decide) Try.underlying32 cellsFn (fun f b => (f.f.cs.length ≤ 1099511627776 → FuR W f) ∧ f.f.cs.length ≤ b ∧ NilZ f.cv) (fun fuel cs y hy => open_fn hy) h1
 have m0 := bulk_mem (xs.map (·.1)) xs[0].1 (List.mem_map_of_mem (List.getElem_mem (by omega)))
 have m1 := bulk_mem (xs.map (·.1)) xs[1].1 (List.mem_map_of_mem (List.getElem_mem (by omega)))
 have hd : Rows.uptoBulkAll (xs.map (·.1)) ≤ 1048576 := by
  have e := congrArg Prod.fst hx
  simp only at e
  subst e
  simp only [Rows.uptoBulk] at hb
  omega
 refine ⟨sv, fv, ⟨ss, fs⟩, ?_, ⟨r0, r1, fun s hs => ?_, fun f hf => ?_, by dsimp only; omega, by dsimp only; omega⟩, ⟨by dsimp only; omega, by dsimp only; omega, fun s hs => ?_, fun f hf => ?_⟩, fun f hf => ?_⟩
 ·have e := list2 (by simpa using hsz) (one_of (a := 0) e0) (one_of (a := 1) e1)
  exact congrArg Value.agg (Array.toList_inj.1 e)
 ·obtain ⟨b, hb', g1, g2, g3, g4⟩ := q0 s hs
  exact ⟨g1, g2, by omega, by omega⟩
 ·obtain ⟨b, hb', g1, g2, _⟩ := q1 f hf
  exact g1 (by omega)
 ·obtain ⟨b, hb', g1, g2, g3, g4⟩ := q0 s hs
  exact ⟨by omega, by omega⟩
 ·obtain ⟨b, hb', g1, g2, _⟩ := q1 f hf
  omega
 ·exact (q1 f hf).elim fun _ h => h.2.2.2
end Tg
end Go.Proofs.Ytifjgocfdnhdeaa
