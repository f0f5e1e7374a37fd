/-
  Texts of this seat, joined: ApA, ExS, ExL. Each says what it proves.
-/
import Derived.Test.YtebkabidojipoaaMk4
import Derived.Test.YtebkabidojipoaaMk6
import Derived.Deep.AppendLies
/- ApA -/
namespace Go.Proofs.Ytebkabidojipoaa
open Go.RowKit
section
variable {P : Program} {w : World}
theorem run_append_src_at (t ty : TypeId) (base : Nat) (e : TypeId) (i : TypeInfo) (z : Value) (size bytes : Nat) (ht : P.underlying t = some (.slice e)) (hi : P.info? e = some i) (hz : i.zero = some z)
  (hsize : i.size = size) (hby : i.bytes = bytes) (hzs : z.cells.size = size) (hsz : 0 < size) (v : Value) (n : Nat) (xs : List Value) (hown : w.ownsRow base e size v n xs)
  (sv : Value) (m : Nat) (news : List Value) (hsrc : Src w sv m news) (hl : news.length = m * size) (h1 : ∀ u ∈ news, u.oneCell' = true)
  (h63 : n + m ≤ maxLen) (hbytes : (n + m) * bytes ≤ 140737488355328) (hbase : base ≤ w.heap.size) :
  ∃ v' w', (Builtin.append_ #[t, t] ty #[v, sv]).run P w = .ok v' w' ∧ w'.ownsRow base e size v' (n + m) (xs ++ news) ∧ w.grownBy w' v.ownBlock ∧ ∀ k, v'.ownBlock = some k → v.ownBlock = some k ∨ k = w.heap.size := by
 rcases hsrc with ⟨rfl, rfl, rfl⟩ | ⟨ad, c, rfl, hc⟩
 ·exact ⟨v, w, run_append_owned_none (P := P) (w := w) base t ty e i size ht hi v n xs hown, by simpa using hown, ⟨rfl, rfl, rfl, Nat.le_refl _, fun _ _ _ => rfl⟩, fun k hk => .inl hk⟩
 ·obtain ⟨v', w', hr, h2, h3, _, h5⟩ := run_append_own_at (P := P) w base t ty e i z size bytes ht hi hz hsize hby hzs hsz v n xs hown ad m c news hl hc h1 h63 hbytes hbase
  refine ⟨v', w', hr, h2, h3, fun k hk => ?_⟩
  rcases h5 with h5 | h5
  ·exact .inl (h5 ▸ hk)
  ·right
   rw [h5] at hk
   injection hk with hk
   exact hk.symm
theorem wpList_append_at {ops : Array Oper} {rest : List Oper} {o : Oper} {a : Act} {Q : Exit → Act → World → Prop} (hgd : o.guard = none) (s x : Operand) (t : TypeId)
  (ho : o.op = .call { callee := .builtin .append, args := #[s, x], argTypes := #[t, t] })
  (base : Nat) (e : TypeId) (i : TypeInfo) (z : Value) (size bytes : Nat) (ht : P.underlying t = some (.slice e)) (hi : P.info? e = some i) (hz : i.zero = some z)
  (hsize : i.size = size) (hby : i.bytes = bytes) (hzs : z.cells.size = size) (hsz : 0 < size)
  (v : Value) (n : Nat) (xs : List Value) (hs : a.eval s = v) (hown : w.ownsRow base e size v n xs)
  (sv : Value) (m : Nat) (news : List Value) (hx : a.eval x = sv) (hsrc : Src w sv m news) (hl : news.length = m * size) (h1 : ∀ u ∈ news, u.oneCell' = true)
  (h63 : n + m ≤ maxLen) (hbytes : (n + m) * bytes ≤ 140737488355328) (hbase : base ≤ w.heap.size)
  (h : ∀ v' w', w'.ownsRow base e size v' (n + m) (xs ++ news) → w.grownBy w' v.ownBlock → (∀ k, v'.ownBlock = some k → v.ownBlock = some k ∨ k = w.heap.size) → wpList P ops Q rest (a.put o.dst v') w') : wpList P ops Q (o :: rest) a w := by
 refine wpList_plain hgd fun K hK => ?_
 obtain ⟨v', w', hr, h2, h3, h4⟩ := run_append_src_at (P := P) (w := w) t o.type base e i z size bytes ht hi hz hsize hby hzs hsz v n xs hown sv m news hsrc hl h1 h63 hbytes hbase
 unfold Oper.wp execOp
 simp only [ho, resolve, invoke, builtin, Sem.run_bind, Sem.run_pure, Result.andThen_ok, List.map_toArray, List.map_cons, List.map_nil, hs, hx, hr]
 exact hK _ _ (h v' w' h2 h3 h4)
theorem fac_append {Φ : Value → World → Prop} {ex : Nat → Prop} {ρ : Operand → Value} {o : Oper} (s x : Operand) (t : TypeId)
  (ho : o.op = .call { callee := .builtin .append, args := #[s, x], argTypes := #[t, t] })
  (base : Nat) (e : TypeId) (i : TypeInfo) (z : Value) (size bytes : Nat) (ht : P.underlying t = some (.slice e)) (hi : P.info? e = some i) (hz : i.zero = some z)
  (hsize : i.size = size) (hby : i.bytes = bytes) (hzs : z.cells.size = size) (hsz : 0 < size)
  (v : Value) (n : Nat) (xs : List Value) (hs : ρ s = v) (hown : w.ownsRow base e size v n xs)
  (sv : Value) (m : Nat) (news : List Value) (hx : ρ x = sv) (hsrc : Src w sv m news) (hl : news.length = m * size) (h1 : ∀ u ∈ news, u.oneCell' = true)
  (h63 : n + m ≤ maxLen) (hbytes : (n + m) * bytes ≤ 140737488355328) (hbase : base ≤ w.heap.size) (hex : ∀ k, v.ownBlock = some k → ex k)
  (h : ∀ v' w', w'.ownsRow base e size v' (n + m) (xs ++ news) → w.grownBy w' v.ownBlock → (∀ k, v'.ownBlock = some k → v.ownBlock = some k ∨ k = w.heap.size) → Φ v' w') : facUpon P Φ ex w ((execOp ρ o).run P w) := by
 obtain ⟨v', w', hr, h2, h3, h4⟩ := run_append_src_at (P := P) (w := w) t o.type base e i z size bytes ht hi hz hsize hby hzs hsz v n xs hown sv m news hsrc hl h1 h63 hbytes hbase
 unfold execOp
 simp only [ho, resolve, invoke, builtin, Sem.run_bind, Sem.run_pure, Result.andThen_ok, List.map_toArray, List.map_cons, List.map_nil, hs, hx, hr]
 exact ⟨h v' w' h2 h3 h4, Sep.grown h3 hex⟩
end
end Go.Proofs.Ytebkabidojipoaa
/- ExS -/
namespace Go.Proofs.Ytebkabidojipoaa
open Go.RowKit VecM LebM
namespace Ex
theorem infoZ : (Try.prog.info? 3).map (fun i => (i.zero, i.size, i.bytes)) = some (some (.int .i64 0), 1, 8) := by kernel_rfl
def ivs (l : List Int) : List Value := l.map (Value.int .i64)
theorem ivs_app (l l' : List Int) : ivs (l ++ l') = ivs l ++ ivs l' := List.map_append
theorem ivs_len (l : List Int) : (ivs l).length = l.length := by unfold ivs; simp
theorem own_slice {w : World} {base : Nat} {e : TypeId} {z : Nat} {v : Value} {n : Nat} {xs : List Value} (h : w.ownsRow base e z v n xs) : ∃ x c, v = .slice x n c := by
 rcases h.2 with ⟨h1, h2⟩ | ⟨g, cap, cur, rfl, _⟩
 ·exact ⟨none, 0, by rw [h1, h2]⟩
 ·exact ⟨_, _, rfl⟩
theorem own_some {w : World} {base : Nat} {e : TypeId} {size : Nat} {v : Value} {n : Nat} {xs : List Value} (h : w.ownsRow base e size v n xs) (hn : 0 < n) : ∃ g c, v = .slice (some ⟨g, 0, none⟩) n c ∧ n ≤ c ∧ base ≤ g ∧ g < w.heap.size ∧ c ≤ maxLen := by
 rcases h.2 with ⟨_, rfl⟩ | ⟨g, cap, cur, rfl, hb, hg, hnc, hm, _⟩
 ·omega
 ·exact ⟨g, cap, rfl, hnc, hb, (Array.getElem?_eq_some_iff.1 hg).1, hm⟩
theorem own_cut {w : World} {base q cap n : Nat} {e : TypeId} {xs : List Value} {x : Value} (h : w.ownsRow base e 1 (.slice (some ⟨q, 0, none⟩) (n + 1) cap) (n + 1) (xs ++ [x])) : w.ownsRow base e 1 (.slice (some ⟨q, 0, none⟩) n cap) n xs := by
 have hl := h.1
 simp only [List.length_append, List.length_cons, List.length_nil] at hl
 refine ⟨by omega, ?_⟩
 rcases h.2 with ⟨h1, _⟩ | ⟨g, cap', cur, h1, hb, hg, hn, hm, hs, ht⟩
 ·cases h1
 ·obtain ⟨h2, _, h3⟩ := Value.slice.inj h1
  obtain rfl : q = g := by simpa using h2
  subst h3
  refine .inr ⟨q, cap, cur, rfl, hb, hg, by omega, hm, hs, ?_⟩
  have h4 := congrArg (List.take n) ht
  rw [List.take_take, Nat.min_eq_left (by omega)] at h4
  rw [Nat.mul_one, h4, List.take_append_of_le_length (by omega), List.take_of_length_le (by omega)]
theorem rs_sep {ex : Nat → Prop} {w w' : World} {g : Nat} {sv ov : Value} {s : St} {cl : Bool} (h : RS w g sv s ov cl) (hs : Sep ex w w') (hx : ¬ ex g) : RS w' g sv s ov cl := hs.at_ hx h
theorem rs_lt {w : World} {g : Nat} {sv ov : Value} {s : St} {cl : Bool} (h : RS w g sv s ov cl) : g < w.heap.size := (Array.getElem?_eq_some_iff.1 h).1
theorem rs_open {w : World} {g : Nat} {sv ov : Value} {s : St} {cl : Bool} (h : RS w g sv s ov cl) (v : Value) : RS (w.setCell ⟨g, 3, none⟩ v) g sv s v cl ∧ Sep (One g) w (w.setCell ⟨g, 3, none⟩ v) :=
 ⟨setCell_cell h 3 _, Sep.setCell (ex := One g) w (p := ⟨g, 3, none⟩) rfl _⟩
theorem rs_cl {w : World} {g : Nat} {sv ov : Value} {s : St} {cl : Bool} (h : RS w g sv s ov cl) (b : Bool) : RS (w.setCell ⟨g, 4, none⟩ (.bool b)) g sv s ov b ∧ Sep (One g) w (w.setCell ⟨g, 4, none⟩ (.bool b)) :=
 ⟨setCell_cell h 4 _, Sep.setCell (ex := One g) w (p := ⟨g, 4, none⟩) rfl _⟩
def NS (w : World) (g : Nat) (ov : Value) (N : List Int) : Prop := w.ownsRow (g + 1) 3 1 ov N.length (ivs N)
theorem ns_sep {ex : Nat → Prop} {w w' : World} {g : Nat} {ov : Value} {N : List Int} (h : NS w g ov N) (hs : Sep ex w w') (hx : ∀ k, ov.ownBlock = some k → ¬ ex k) : NS w' g ov N := hs.owns h hx
theorem ns_one {w w' : World} {g : Nat} {ov : Value} {N : List Int} (h : NS w g ov N) (hs : Sep (One g) w w') : NS w' g ov N := ns_sep h hs (fun k hk e => by have := h.lt k hk; have e' : k = g := e; omega)
theorem full_any {w : World} {g : Nat} {sv ov : Value} {s : St} {cl : Bool} {N : List Int} (h : RS w g sv s ov cl) (hn : NS w g ov N) :
  Calls Try.prog 22 #[.pointer (some ⟨g, 3, none⟩)] w fun e w' => e = .returned (.bool ((N.length : Int) == 128)) ∧ w = w' := by
 obtain ⟨x, c, rfl⟩ := own_slice hn
 obtain ⟨_, _, _, a3, a4⟩ := cells5 h
 clear h hn
 go_enter Try.func22, Try.ntmps22
 go_wp2
 go_ret
 exact ⟨rfl, rfl⟩
def stepN (op form : Int) (N : List Int) (cl : Bool) : Bool × List Int × Bool :=
 if cl = true then (false, N, cl)
 else if form = 2 then (true, N ++ [op], false)
 else if op = 5 then (if N.getLast? = some 4 then (true, N.dropLast ++ [5], false) else (false, N, false))
 else if op = 11 then (if N = [] then (true, N, true) else (true, N.dropLast, false))
 else (true, N, false)
def Two (g : Nat) (ov : Value) : Nat → Prop := fun k => k = g ∨ ov.ownBlock = some k
def STP (w : World) (g : Nat) (sv : Value) (s : St) (ov : Value) (r : Bool × List Int × Bool) (e : Ending) (w' : World) : Prop :=
 ∃ ov', e = .returned (.bool r.1) ∧ RS w' g sv s ov' r.2.2 ∧ NS w' g ov' r.2.1 ∧ (∀ k, ov'.ownBlock = some k → ov.ownBlock = some k ∨ w.heap.size ≤ k) ∧ Sep (Two g ov) w w'
theorem stp_same {w w' : World} {g : Nat} {sv ov : Value} {s : St} {b b' : Bool} {N : List Int} (hn : NS w g ov N) (h : RS w' g sv s ov b') (hs : Sep (One g) w w') : STP w g sv s ov (b, N, b') (.returned (.bool b)) w' :=
 ⟨ov, rfl, h, ns_one hn hs, fun _k hk => .inl hk, hs.mono fun _k hk => .inl hk⟩
theorem own_at {w : World} {g : Nat} {ov : Value} {N : List Int} (h : NS w g ov N) : ¬ (ov.ownBlock = some g) := fun e => by have := h.lt g e; omega
theorem open_row {w w1 w2 : World} {g : Nat} {sv ov v : Value} {s : St} {cl : Bool} {N M : List Int} (h : RS w g sv s ov cl) (hn : NS w g ov N) (hs : Sep (fun k => ov.ownBlock = some k) w w1) (hm : NS w1 g v M)
  (hk : ∀ k, v.ownBlock = some k → ov.ownBlock = some k ∨ w.heap.size ≤ k) (e : w2 = w1.setCell ⟨g, 3, none⟩ v) (b : Bool) : STP w g sv s ov (b, M, cl) (.returned (.bool b)) w2 := by
 subst e
 have h1 := rs_sep h hs (own_at hn)
 have h2 := rs_open h1 v
 exact ⟨v, rfl, h2.1, ns_one hm h2.2, hk, Sep.trans (hs.mono fun k hk => .inr hk) (h2.2.mono fun k hk => .inl hk)⟩
set_option maxRecDepth 100000 in
set_option maxHeartbeats 1000000 in
theorem step_push {w : World} {g : Nat} {sv ov : Value} {s : St} {N : List Int} (h : RS w g sv s ov false) (hn : NS w g ov N) (op : Int) (hN : N.length ≤ 100000) :
  Calls Try.prog 23 #[.pointer (some ⟨g, 3, none⟩), .int .i64 op, .int .i64 2] w (STP w g sv s ov (true, N ++ [op], false)) := by
 have HN := Lib.hid hn
 have H := Lib.hid h
 have hlt := rs_lt h
 obtain ⟨_, _, _, a3, a4⟩ := cells5 h
 obtain ⟨x, c, rfl⟩ := own_slice hn
 have HL := Lib.hid hN
 have HLT := Lib.hid hlt
 clear h hn hN hlt
 obtain ⟨i0, hi, hz0, hz1, hz2⟩ := info_parts infoZ
 have HI := Lib.hid hi
 have HZ0 := Lib.hid hz0
 have HZ1 := Lib.hid hz1
 have HZ2 := Lib.hid hz2
 clear hi hz0 hz1 hz2
 go_enter Try.func23, Try.ntmps23
 go_wp2_with (at_builtin; refine wpList_append_at rfl _ _ 36 rfl (g + 1) 3 i0 (.int .i64 0) 1 8 Try.underlying36 HI.out HZ0.out HZ1.out HZ2.out rfl (by decide) (.slice x N.length c) N.length (ivs N) rfl (World.ownsRow.alloc HN.out _) (.slice (some ⟨w.heap.size, 0, none⟩) 1 1) 1 [.int .i64 op] rfl (src_lit w #[.int .i64 op] 3 1 1) rfl (fun u hu => by simp at hu; subst hu; rfl) ?c3 ?c4 ?c5 ?_)
 case c3 => have := HL.out; unfold maxLen; omega
 case c4 => have := HL.out; omega
 case c5 => have := HLT.out; simp; omega
 intro v' w3 hown2 hgb hblk
 have HS := Lib.hid (show Sep (fun k => (Value.slice x N.length c).ownBlock = some k) w w3 from Sep.trans (Sep.of_gr ((Gr.refl w).alloc _ _)) (Sep.grown hgb fun k hk => hk))
 have HM := Lib.hid (show NS w3 g v' (N ++ [op]) from by unfold NS; rw [ivs_app, List.length_append]; exact hown2)
 have HK := Lib.hid (show ∀ k, v'.ownBlock = some k → (Value.slice x N.length c).ownBlock = some k ∨ w.heap.size ≤ k from fun k hk => (hblk k hk).imp id fun e => by first | omega | (simp at e; omega))
 obtain ⟨x9, c9, rfl⟩ := own_slice hown2
 have fz := froz (rs_sep H.out HS.out (own_at HN.out)) 3
 have b3 := (cells5 (rs_sep H.out HS.out (own_at HN.out))).2.2.2.1
 clear hown2 hgb hblk a3 a4
 go_wp2
 go_ret
 exact open_row H.out HN.out HS.out HM.out HK.out rfl true
theorem step_closed {w : World} {g : Nat} {sv ov : Value} {s : St} {N : List Int} (h : RS w g sv s ov true) (hn : NS w g ov N) (op form : Int) :
  Calls Try.prog 23 #[.pointer (some ⟨g, 3, none⟩), .int .i64 op, .int .i64 form] w (STP w g sv s ov (false, N, true)) := by
 have HN := Lib.hid hn
 have H := Lib.hid h
 obtain ⟨_, _, _, a3, a4⟩ := cells5 h
 obtain ⟨x, c, rfl⟩ := own_slice hn
 clear h hn
 go_enter Try.func23, Try.ntmps23
 go_wp2
 go_ret
 exact stp_same HN.out H.out (Sep.refl _)
theorem step_none {w : World} {g : Nat} {sv ov : Value} {s : St} (h : RS w g sv s ov false) (hn : NS w g ov []) (op form : Int) (hf : form ≠ 2) :
  Calls Try.prog 23 #[.pointer (some ⟨g, 3, none⟩), .int .i64 op, .int .i64 form] w (STP w g sv s ov (stepN op form [] false)) := by
 have HN := Lib.hid hn
 have H := Lib.hid h
 obtain ⟨_, _, _, a3, a4⟩ := cells5 h
 have fz4 := froz h 4
 have HP := Lib.hid (rs_cl h true)
 obtain ⟨x, c, rfl⟩ := own_slice hn
 have n1 : (form == 2) = false := by simpa using hf
 by_cases h5 : op = 5
 ·subst h5
  have e1 : stepN 5 form [] false = (false, [], false) := by simp [stepN, hf]
  rw [e1]
  clear h hn hf e1
  go_enter Try.func23, Try.ntmps23
  go_wp2
  go_ret
  exact stp_same HN.out H.out (Sep.refl _)
 ·have n2 : (op == 5) = false := by simpa using h5
  by_cases h11 : op = 11
  ·subst h11
   have e1 : stepN 11 form [] false = (true, [], true) := by simp [stepN, hf]
   rw [e1]
   clear h hn hf e1 h5
   go_enter Try.func23, Try.ntmps23
   go_wp2
   go_ret
   exact stp_same HN.out HP.out.1 HP.out.2
  ·have n3 : (op == 11) = false := by simpa using h11
   have e1 : stepN op form [] false = (true, [], false) := by simp [stepN, hf, h5, h11]
   rw [e1]
   clear h hn hf e1 h5 h11
   go_enter Try.func23, Try.ntmps23
   go_wp2
   go_ret
   exact stp_same HN.out H.out (Sep.refl _)
set_option maxHeartbeats 1000000 in
theorem step_some {w : World} {g : Nat} {sv ov : Value} {s : St} {M : List Int} {t : Int} (h : RS w g sv s ov false) (hn : NS w g ov (M ++ [t])) (op form : Int) (hf : form ≠ 2) (hN : M.length ≤ 100000) :
  Calls Try.prog 23 #[.pointer (some ⟨g, 3, none⟩), .int .i64 op, .int .i64 form] w (STP w g sv s ov (stepN op form (M ++ [t]) false)) := by
 have HN := Lib.hid hn
 have H := Lib.hid h
 obtain ⟨_, _, _, a3, a4⟩ := cells5 h
 have fz3 := froz h 3
 have h1 : w.ownsRow (g + 1) 3 1 ov (M.length + 1) (ivs M ++ [.int .i64 t]) := by
  have := hn
  unfold NS at this
  rw [ivs_app, List.length_append] at this
  exact this
 obtain ⟨q, c, rfl, hc, hq, hqs, hm⟩ := own_some h1 (by omega)
 have hcell : w.cell? ⟨q, M.length, none⟩ = some (.int .i64 t) := by
  rw [h1.cellAt M.length (by omega)]
  rw [List.getElem?_append_right (by rw [ivs_len]; exact Nat.le_refl _), ivs_len, Nat.sub_self]; rfl
 have fq := h1.frozenAt M.length
 have HQ := Lib.hid (show M.length + 1 ≤ c ∧ g + 1 ≤ q ∧ c ≤ maxLen from ⟨hc, hq, hm⟩)
 have hl : M.length ≤ 100000 := hN
 have T1 : IntKind.i64.wrap ((M.length : Int) + 1 - 1) = (M.length : Int) := by rw [IntKind.wrap_i64]; omega
 have T2 : IntKind.i64.wrap (M.length : Int) = (M.length : Int) := by rw [IntKind.wrap_i64]; omega
 have T3 : decide ((M.length : Int) < 0) = false := decide_eq_false (by omega)
 have n1 : (form == 2) = false := by simpa using hf
 have HO := Lib.hid h1
 by_cases h5 : op = 5
 ·subst h5
  by_cases h4 : t = 4
  ·subst h4
   have e1 : stepN 5 form (M ++ [4]) false = (true, M ++ [5], false) := by simp [stepN, hf]
   rw [e1]
   clear h hn hf e1 h1 hc hq hqs hm hN hl
   go_enter Try.func23, Try.ntmps23
   go_wp2
   go_ret
   have hs : Sep (fun k => (Value.slice (some ⟨q, 0, none⟩) (M.length + 1) c).ownBlock = some k) w (w.setCell ⟨q, M.length, none⟩ (.int .i64 5)) := Sep.setCell (ex := fun k => (Value.slice (some ⟨q, 0, none⟩) (M.length + 1) c).ownBlock = some k) w (p := ⟨q, M.length, none⟩) rfl _
   refine ⟨_, rfl, rs_sep H.out hs ?_, ?_, fun k hk => .inl hk, hs.mono fun k hk => .inr hk⟩
   ·intro e; have e' : q = g := by simpa [Value.ownBlock] using e
    have := HQ.out; omega
   ·unfold NS
    rw [ivs_app, List.length_append]
    have h9 := HO.out.stored M.length (.int .i64 5)
    have e9 : (ivs M ++ [Value.int .i64 4]).set M.length (.int .i64 5) = ivs M ++ ivs [5] := by
     rw [List.set_append_right _ _ (by rw [ivs_len]; exact Nat.le_refl _), ivs_len, Nat.sub_self]; rfl
    rw [e9] at h9
    exact h9.1
  ·have n4 : (t != 4) = true := by simpa using h4
   have e1 : stepN 5 form (M ++ [t]) false = (false, M ++ [t], false) := by simp [stepN, hf, h4]
   rw [e1]
   clear h hn hf e1 h1 hc hq hqs hm hN hl h4
   go_enter Try.func23, Try.ntmps23
   go_wp2
   go_ret
   exact stp_same HN.out H.out (Sep.refl _)
 ·have n2 : (op == 5) = false := by simpa using h5
  by_cases h11 : op = 11
  ·subst h11
   have e1 : stepN 11 form (M ++ [t]) false = (true, M, false) := by simp [stepN, hf]
   rw [e1]
   have T4 : (M.length : Int) ≤ (c : Int) := by omega
   have HP := Lib.hid (rs_open h (.slice (some ⟨q, 0, none⟩) M.length c))
   have HC := Lib.hid (own_cut h1)
   clear h hn hf e1 h1 hc hq hqs hm hN hl h5
   go_enter Try.func23, Try.ntmps23
   go_wp2
   go_ret
   exact ⟨_, rfl, HP.out.1, ns_one HC.out HP.out.2, fun k hk => .inl hk, HP.out.2.mono fun k hk => .inl hk⟩
  ·have n3 : (op == 11) = false := by simpa using h11
   have e1 : stepN op form (M ++ [t]) false = (true, M ++ [t], false) := by simp [stepN, hf, h5, h11]
   rw [e1]
   clear h hn hf e1 h1 hc hq hqs hm hN hl h5 h11
   go_enter Try.func23, Try.ntmps23
   go_wp2
   go_ret
   exact stp_same HN.out H.out (Sep.refl _)
theorem step_any {w : World} {g : Nat} {sv ov : Value} {s : St} {cl : Bool} {N : List Int} (h : RS w g sv s ov cl) (hn : NS w g ov N) (op form : Int) (hN : N.length ≤ 100000) :
  Calls Try.prog 23 #[.pointer (some ⟨g, 3, none⟩), .int .i64 op, .int .i64 form] w (STP w g sv s ov (stepN op form N cl)) := by
 cases cl with
 | true => exact step_closed h hn op form
 | false =>
  by_cases hf : form = 2
  ·subst hf
   exact step_push h hn op hN
  ·rcases List.eq_nil_or_concat N with rfl | ⟨M, t, rfl⟩
   ·exact step_none h hn op form hf
   ·rw [List.concat_eq_append] at *
    exact step_some h hn op form hf (by simp at hN; omega)
end Ex
end Go.Proofs.Ytebkabidojipoaa
/- ExL -/
namespace Go.Proofs.Ytebkabidojipoaa
open Go.RowKit VecM LebM
namespace Ex
namespace W
theorem cells2n {w : World} {g : Nat} {a b : Value} {t : TypeId} {z : Nat × Nat} (h : w.heap[g]? = some (.cells #[a, b] t z)) : w.cell? ⟨g, 0, none⟩ = some a ∧ w.cell? ⟨g, 1, none⟩ = some b :=
 ⟨(cell_of_row _ _ 0 _ _ _ h).trans rfl, (cell_of_row _ _ 1 _ _ _ h).trans rfl⟩
def NB (w : World) (g : Nat) (ov : Value) (cl : Bool) : Prop := w.heap[g]? = some (.cells #[ov, .bool cl] 43 (0, 0))
theorem nb_sep {ex : Nat → Prop} {w w' : World} {g : Nat} {ov : Value} {cl : Bool} (h : NB w g ov cl) (hs : Sep ex w w') (hx : ¬ ex g) : NB w' g ov cl := hs.at_ hx h
theorem nb_lt {w : World} {g : Nat} {ov : Value} {cl : Bool} (h : NB w g ov cl) : g < w.heap.size := (Array.getElem?_eq_some_iff.1 h).1
theorem nb_open {w : World} {g : Nat} {ov : Value} {cl : Bool} (h : NB w g ov cl) (v : Value) : NB (w.setCell ⟨g, 0, none⟩ v) g v cl ∧ Sep (One g) w (w.setCell ⟨g, 0, none⟩ v) :=
 ⟨setCell_cell h 0 _, Sep.setCell (ex := One g) w (p := ⟨g, 0, none⟩) rfl _⟩
theorem nb_cl {w : World} {g : Nat} {ov : Value} {cl : Bool} (h : NB w g ov cl) (b : Bool) : NB (w.setCell ⟨g, 1, none⟩ (.bool b)) g ov b ∧ Sep (One g) w (w.setCell ⟨g, 1, none⟩ (.bool b)) :=
 ⟨setCell_cell h 1 _, Sep.setCell (ex := One g) w (p := ⟨g, 1, none⟩) rfl _⟩
theorem full_any {w : World} {g : Nat} {ov : Value} {cl : Bool} {N : List Int} (h : NB w g ov cl) (hn : NS w g ov N) :
  Calls Try.prog 22 #[.pointer (some ⟨g, 0, none⟩)] w fun e w' => e = .returned (.bool ((N.length : Int) == 128)) ∧ w = w' := by
 obtain ⟨x, c, rfl⟩ := own_slice hn
 obtain ⟨a3, a4⟩ := cells2n h
 clear h hn
 go_enter Try.func22, Try.ntmps22
 go_wp2
 go_ret
 exact ⟨rfl, rfl⟩
def Two (g : Nat) (ov : Value) : Nat → Prop := fun k => k = g ∨ ov.ownBlock = some k
def STP (w : World) (g : Nat) (ov : Value) (r : Bool × List Int × Bool) (e : Ending) (w' : World) : Prop :=
 ∃ ov', e = .returned (.bool r.1) ∧ NB w' g ov' r.2.2 ∧ NS w' g ov' r.2.1 ∧ (∀ k, ov'.ownBlock = some k → ov.ownBlock = some k ∨ w.heap.size ≤ k) ∧ Sep (Two g ov) w w'
theorem stp_same {w w' : World} {g : Nat} {ov : Value} {b b' : Bool} {N : List Int} (hn : NS w g ov N) (h : NB w' g ov b') (hs : Sep (One g) w w') : STP w g ov (b, N, b') (.returned (.bool b)) w' :=
 ⟨ov, rfl, h, ns_one hn hs, fun _k hk => .inl hk, hs.mono fun _k hk => .inl hk⟩
theorem own_at {w : World} {g : Nat} {ov : Value} {N : List Int} (h : NS w g ov N) : ¬ (ov.ownBlock = some g) := fun e => by have := h.lt g e; omega
theorem open_row {w w1 w2 : World} {g : Nat} {ov v : Value} {cl : Bool} {N M : List Int} (h : NB w g ov cl) (hn : NS w g ov N) (hs : Sep (fun k => ov.ownBlock = some k) w w1) (hm : NS w1 g v M)
  (hk : ∀ k, v.ownBlock = some k → ov.ownBlock = some k ∨ w.heap.size ≤ k) (e : w2 = w1.setCell ⟨g, 0, none⟩ v) (b : Bool) : STP w g ov (b, M, cl) (.returned (.bool b)) w2 := by
 subst e
 have h1 := nb_sep h hs (own_at hn)
 have h2 := nb_open h1 v
 exact ⟨v, rfl, h2.1, ns_one hm h2.2, hk, Sep.trans (hs.mono fun k hk => .inr hk) (h2.2.mono fun k hk => .inl hk)⟩
set_option maxRecDepth 100000 in
set_option maxHeartbeats 1000000 in
theorem step_push {w : World} {g : Nat} {ov : Value} {N : List Int} (h : NB w g ov false) (hn : NS w g ov N) (op : Int) (hN : N.length ≤ 100000) :
  Calls Try.prog 23 #[.pointer (some ⟨g, 0, none⟩), .int .i64 op, .int .i64 2] w (STP w g ov (true, N ++ [op], false)) := by
 have HN := Lib.hid hn
 have H := Lib.hid h
 have hlt := nb_lt h
 obtain ⟨a3, a4⟩ := cells2n h
 obtain ⟨x, c, rfl⟩ := own_slice hn
 have HL := Lib.hid hN
 have HLT := Lib.hid hlt
 clear h hn hN hlt
 obtain ⟨i0, hi, hz0, hz1, hz2⟩ := info_parts infoZ
 have HI := Lib.hid hi
 have HZ0 := Lib.hid hz0
 have HZ1 := Lib.hid hz1
 have HZ2 := Lib.hid hz2
 clear hi hz0 hz1 hz2
 go_enter Try.func23, Try.ntmps23
 go_wp2_with (at_builtin; refine wpList_append_at rfl _ _ 36 rfl (g + 1) 3 i0 (.int .i64 0) 1 8 Try.underlying36 HI.out HZ0.out HZ1.out HZ2.out rfl (by decide) (.slice x N.length c) N.length (ivs N) rfl (World.ownsRow.alloc HN.out _) (.slice (some ⟨w.heap.size, 0, none⟩) 1 1) 1 [.int .i64 op] rfl (src_lit w #[.int .i64 op] 3 1 1) rfl (fun u hu => by simp at hu; subst hu; rfl) ?c3 ?c4 ?c5 ?_)
 case c3 => have := HL.out; unfold maxLen; omega
 case c4 => have := HL.out; omega
 case c5 => have := HLT.out; simp; omega
 intro v' w3 hown2 hgb hblk
 have HS := Lib.hid (show Sep (fun k => (Value.slice x N.length c).ownBlock = some k) w w3 from Sep.trans (Sep.of_gr ((Gr.refl w).alloc _ _)) (Sep.grown hgb fun k hk => hk))
 have HM := Lib.hid (show NS w3 g v' (N ++ [op]) from by unfold NS; rw [ivs_app, List.length_append]; exact hown2)
 have HK := Lib.hid (show ∀ k, v'.ownBlock = some k → (Value.slice x N.length c).ownBlock = some k ∨ w.heap.size ≤ k from fun k hk => (hblk k hk).imp id fun e => by first | omega | (simp at e; omega))
 obtain ⟨x9, c9, rfl⟩ := own_slice hown2
 have fz := froz (nb_sep H.out HS.out (own_at HN.out)) 0
 have b3 := (cells2n (nb_sep H.out HS.out (own_at HN.out))).1
 clear hown2 hgb hblk a3 a4
 go_wp2
 go_ret
 exact open_row H.out HN.out HS.out HM.out HK.out rfl true
theorem step_closed {w : World} {g : Nat} {ov : Value} {N : List Int} (h : NB w g ov true) (hn : NS w g ov N) (op form : Int) :
  Calls Try.prog 23 #[.pointer (some ⟨g, 0, none⟩), .int .i64 op, .int .i64 form] w (STP w g ov (false, N, true)) := by
 have HN := Lib.hid hn
 have H := Lib.hid h
 obtain ⟨a3, a4⟩ := cells2n h
 obtain ⟨x, c, rfl⟩ := own_slice hn
 clear h hn
 go_enter Try.func23, Try.ntmps23
 go_wp2
 go_ret
 exact stp_same HN.out H.out (Sep.refl _)
theorem step_none {w : World} {g : Nat} {ov : Value} (h : NB w g ov false) (hn : NS w g ov []) (op form : Int) (hf : form ≠ 2) :
  Calls Try.prog 23 #[.pointer (some ⟨g, 0, none⟩), .int .i64 op, .int .i64 form] w (STP w g ov (stepN op form [] false)) := by
 have HN := Lib.hid hn
 have H := Lib.hid h
 obtain ⟨a3, a4⟩ := cells2n h
 have fz4 := froz h 1
 have HP := Lib.hid (nb_cl h true)
 obtain ⟨x, c, rfl⟩ := own_slice hn
 have n1 : (form == 2) = false := by simpa using hf
 by_cases h5 : op = 5
 ·subst h5
  have e1 : stepN 5 form [] false = (false, [], false) := by simp [stepN, hf]
  rw [e1]
  clear h hn hf e1
  go_enter Try.func23, Try.ntmps23
  go_wp2
  go_ret
  exact stp_same HN.out H.out (Sep.refl _)
 ·have n2 : (op == 5) = false := by simpa using h5
  by_cases h11 : op = 11
  ·subst h11
   have e1 : stepN 11 form [] false = (true, [], true) := by simp [stepN, hf]
   rw [e1]
   clear h hn hf e1 h5
   go_enter Try.func23, Try.ntmps23
   go_wp2
   go_ret
   exact stp_same HN.out HP.out.1 HP.out.2
  ·have n3 : (op == 11) = false := by simpa using h11
   have e1 : stepN op form [] false = (true, [], false) := by simp [stepN, hf, h5, h11]
   rw [e1]
   clear h hn hf e1 h5 h11
   go_enter Try.func23, Try.ntmps23
   go_wp2
   go_ret
   exact stp_same HN.out H.out (Sep.refl _)
set_option maxHeartbeats 1000000 in
theorem step_some {w : World} {g : Nat} {ov : Value} {M : List Int} {t : Int} (h : NB w g ov false) (hn : NS w g ov (M ++ [t])) (op form : Int) (hf : form ≠ 2) (hN : M.length ≤ 100000) :
  Calls Try.prog 23 #[.pointer (some ⟨g, 0, none⟩), .int .i64 op, .int .i64 form] w (STP w g ov (stepN op form (M ++ [t]) false)) := by
 have HN := Lib.hid hn
 have H := Lib.hid h
 obtain ⟨a3, a4⟩ := cells2n h
 have fz3 := froz h 0
 have h1 : w.ownsRow (g + 1) 3 1 ov (M.length + 1) (ivs M ++ [.int .i64 t]) := by
  have := hn
  unfold NS at this
  rw [ivs_app, List.length_append] at this
  exact this
 obtain ⟨q, c, rfl, hc, hq, hqs, hm⟩ := own_some h1 (by omega)
 have hcell : w.cell? ⟨q, M.length, none⟩ = some (.int .i64 t) := by
  rw [h1.cellAt M.length (by omega)]
  rw [List.getElem?_append_right (by rw [ivs_len]; exact Nat.le_refl _), ivs_len, Nat.sub_self]; rfl
 have fq := h1.frozenAt M.length
 have HQ := Lib.hid (show M.length + 1 ≤ c ∧ g + 1 ≤ q ∧ c ≤ maxLen from ⟨hc, hq, hm⟩)
 have hl : M.length ≤ 100000 := hN
 have T1 : IntKind.i64.wrap ((M.length : Int) + 1 - 1) = (M.length : Int) := by rw [IntKind.wrap_i64]; omega
 have T2 : IntKind.i64.wrap (M.length : Int) = (M.length : Int) := by rw [IntKind.wrap_i64]; omega
 have T3 : decide ((M.length : Int) < 0) = false := decide_eq_false (by omega)
 have n1 : (form == 2) = false := by simpa using hf
 have HO := Lib.hid h1
 by_cases h5 : op = 5
 ·subst h5
  by_cases h4 : t = 4
  ·subst h4
   have e1 : stepN 5 form (M ++ [4]) false = (true, M ++ [5], false) := by simp [stepN, hf]
   rw [e1]
   clear h hn hf e1 h1 hc hq hqs hm hN hl
   go_enter Try.func23, Try.ntmps23
   go_wp2
   go_ret
   have hs : Sep (fun k => (Value.slice (some ⟨q, 0, none⟩) (M.length + 1) c).ownBlock = some k) w (w.setCell ⟨q, M.length, none⟩ (.int .i64 5)) := Sep.setCell (ex := fun k => (Value.slice (some ⟨q, 0, none⟩) (M.length + 1) c).ownBlock = some k) w (p := ⟨q, M.length, none⟩) rfl _
   refine ⟨_, rfl, nb_sep H.out hs ?_, ?_, fun k hk => .inl hk, hs.mono fun k hk => .inr hk⟩
   ·intro e; have e' : q = g := by simpa [Value.ownBlock] using e
    have := HQ.out; omega
   ·unfold NS
    rw [ivs_app, List.length_append]
    have h9 := HO.out.stored M.length (.int .i64 5)
    have e9 : (ivs M ++ [Value.int .i64 4]).set M.length (.int .i64 5) = ivs M ++ ivs [5] := by
     rw [List.set_append_right _ _ (by rw [ivs_len]; exact Nat.le_refl _), ivs_len, Nat.sub_self]; rfl
    rw [e9] at h9
    exact h9.1
  ·have n4 : (t != 4) = true := by simpa using h4
   have e1 : stepN 5 form (M ++ [t]) false = (false, M ++ [t], false) := by simp [stepN, hf, h4]
   rw [e1]
   clear h hn hf e1 h1 hc hq hqs hm hN hl h4
   go_enter Try.func23, Try.ntmps23
   go_wp2
   go_ret
   exact stp_same HN.out H.out (Sep.refl _)
 ·have n2 : (op == 5) = false := by simpa using h5
  by_cases h11 : op = 11
  ·subst h11
   have e1 : stepN 11 form (M ++ [t]) false = (true, M, false) := by simp [stepN, hf]
   rw [e1]
   have T4 : (M.length : Int) ≤ (c : Int) := by omega
   have HP := Lib.hid (nb_open h (.slice (some ⟨q, 0, none⟩) M.length c))
   have HC := Lib.hid (own_cut h1)
   clear h hn hf e1 h1 hc hq hqs hm hN hl h5
   go_enter Try.func23, Try.ntmps23
   go_wp2
   go_ret
   exact ⟨_, rfl, HP.out.1, ns_one HC.out HP.out.2, fun k hk => .inl hk, HP.out.2.mono fun k hk => .inl hk⟩
  ·have n3 : (op == 11) = false := by simpa using h11
   have e1 : stepN op form (M ++ [t]) false = (true, M ++ [t], false) := by simp [stepN, hf, h5, h11]
   rw [e1]
   clear h hn hf e1 h1 hc hq hqs hm hN hl h5 h11
   go_enter Try.func23, Try.ntmps23
   go_wp2
   go_ret
   exact stp_same HN.out H.out (Sep.refl _)
theorem step_any {w : World} {g : Nat} {ov : Value} {cl : Bool} {N : List Int} (h : NB w g ov cl) (hn : NS w g ov N) (op form : Int) (hN : N.length ≤ 100000) :
  Calls Try.prog 23 #[.pointer (some ⟨g, 0, none⟩), .int .i64 op, .int .i64 form] w (STP w g ov (stepN op form N cl)) := by
 cases cl with
 | true => exact step_closed h hn op form
 | false =>
  by_cases hf : form = 2
  ·subst hf
   exact step_push h hn op hN
  ·rcases List.eq_nil_or_concat N with rfl | ⟨M, t, rfl⟩
   ·exact step_none h hn op form hf
   ·rw [List.concat_eq_append] at *
    exact step_some h hn op form hf (by simp at hN; omega)
end W
end Ex
end Go.Proofs.Ytebkabidojipoaa
