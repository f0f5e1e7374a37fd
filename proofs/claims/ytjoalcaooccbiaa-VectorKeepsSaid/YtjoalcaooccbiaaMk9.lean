/-
  Texts of this seat, joined: EvO, EvA, EvP, EvD, EvC, EvL, EvH. Each says what it proves.
-/
import Derived.Test.YtjoalcaooccbiaaMk5
import Derived.Test.YtjoalcaooccbiaaMk7
import Derived.Deep.MidRow
import Derived.Laws.AppendOwn
/- EvO -/
namespace Go.Proofs.Ytjoalcaooccbiaa
open Go.RowKit VecM
namespace Ev
theorem kNum_inj {k k' : IntKind} (h : Nat.beq (kNum k) (kNum k') = true) : k = k' := by
 cases k <;> cases k' <;> first | rfl | (exact absurd h (by decide))
theorem fastI_ok {P : Program} {b : BinOp} {k k' : IntKind} {m n : Int} {v : Value} (h : fastI b k m k' n = some v) (t : TypeId) (x y : Operand) (w : World) :
  (eqGuard b t x y (.int k m) (.int k' n)).run P w = .ok () w ∧ (binOp b t (.int k m) (.int k' n)).run P w = .ok v w := by
 constructor
 ·cases b <;> simp [eqGuard]
 ·unfold fastI at h
  split at h
  ·split at h
   ·cases h
   ·rename_i hn
    obtain rfl := Option.some.inj h
    have hn' : ¬ n < 0 := by simpa using hn
    simp [binOp, Op.shift, hn']
  ·split at h
   ·cases h
   ·rename_i hn
    obtain rfl := Option.some.inj h
    have hn' : ¬ n < 0 := by simpa using hn
    simp [binOp, Op.shift, hn']
  ·split at h
   ·cases h
   ·rename_i hk
    obtain rfl := kNum_inj hk
    cases b <;> simp at h <;> (try subst h) <;> first | (exfalso; simp_all; done) | simp [binOp, Op.intArith, Op.intCmp]
theorem eqInts_ok : ∀ {c d : List Value} {q : Bool}, eqInts c d = some q → ∃ xs ys : List Int, c = xs.map (.int .u8) ∧ d = ys.map (.int .u8) ∧ xs.length = ys.length ∧ q = ((List.range xs.length).all fun i => xs.getD i 0 == ys.getD i 0) := by
 intro c
 induction c with
 | nil =>
  intro d q h
  unfold eqInts at h
  split at h
  ·obtain rfl := Option.some.inj h
   exact ⟨[], [], rfl, rfl, rfl, rfl⟩
  ·contradiction
  ·cases h
 | cons a c ih =>
  intro d q h
  unfold eqInts at h
  split at h
  ·contradiction
  ·rename_i x l y l' heq
   cases heq
   split at h
   ·rename_i q' hq'
    obtain ⟨xs, ys, rfl, rfl, hl, rfl⟩ := ih hq'
    obtain rfl := Option.some.inj h
    refine ⟨x :: xs, y :: ys, rfl, rfl, by simp [hl], ?_⟩
    simp [List.range_succ_eq_map, List.all_map, Function.comp_def]
   ·cases h
  ·cases h
theorem list16 {xs : List Int} (h : xs.length = 16) : (bs fun i => xs.getD i 0) = (xs.map (Value.int .u8)).toArray := by
 match xs, h with
 | [a0, a1, a2, a3, a4, a5, a6, a7, a8, a9, a10, a11, a12, a13, a14, a15], _ => rfl
theorem run_eq2 {o : Oper} {ρ : Operand → Value} {x y : Operand} {t : TypeId} {b c : Nat → Int} (ho : o.op = .binOp .eql 40 x y t) (hx : ρ x = .agg (bs b)) (hy : ρ y = .agg (bs c)) (w : World) :
  (execOp ρ o).run Try.prog w = .ok (.value (.bool (vecB b c))) w := by
 have hq := eq_vec b c w
 unfold execOp
 simp only [ho, hx, hy]
 go_simp
theorem run_ne2 {o : Oper} {ρ : Operand → Value} {x y : Operand} {t : TypeId} {b c : Nat → Int} (ho : o.op = .binOp .neq 40 x y t) (hx : ρ x = .agg (bs b)) (hy : ρ y = .agg (bs c)) (w : World) :
  (execOp ρ o).run Try.prog w = .ok (.value (.bool (!vecB b c))) w := by
 have hq := eq_vec b c w
 unfold execOp
 simp only [ho, hx, hy]
 go_simp
theorem fastV_ok {ρ : Operand → Value} {o : Oper} {v : Value} (h : fastV Try.prog ρ o.op = some v) (w : World) : (execOp ρ o).run Try.prog w = .ok (.value v) w := by
 unfold fastV at h
 split at h
 ·rename_i x ho
  obtain rfl := Option.some.inj h
  unfold execOp; simp [ho]
 ·rename_i x ho
  obtain rfl := Option.some.inj h
  unfold execOp; simp [ho]
 ·rename_i b t x y t' ho
  split at h
  ·rename_i k m k' n hx hy
   obtain ⟨h1, h2⟩ := fastI_ok (P := Try.prog) h t x y w
   unfold execOp
   simp only [ho, hx, hy, Sem.run_bind, h1, h2, Result.andThen_ok, Sem.run_pure]
  ·rename_i c d hx hy
   split at h
   ·rename_i ht
    obtain rfl := Nat.eq_of_beq_eq_true ht
    split at h
    ·split at h
     ·rename_i q hq
      split at h
      ·rename_i hl
       obtain rfl := Option.some.inj h
       obtain ⟨xs, ys, rfl, rfl, hle, rfl⟩ := eqInts_ok hq
       have h16 : xs.length = 16 := by simpa using Nat.eq_of_beq_eq_true hl
       have e1 := list16 h16
       have e2 := list16 (hle ▸ h16)
       rw [run_eq2 ho (hx.trans (congrArg Value.agg e1.symm)) (hy.trans (congrArg Value.agg e2.symm)) w, h16]
       rfl
      ·cases h
     ·cases h
    ·split at h
     ·rename_i q hq
      split at h
      ·rename_i hl
       obtain rfl := Option.some.inj h
       obtain ⟨xs, ys, rfl, rfl, hle, rfl⟩ := eqInts_ok hq
       have h16 : xs.length = 16 := by simpa using Nat.eq_of_beq_eq_true hl
       have e1 := list16 h16
       have e2 := list16 (hle ▸ h16)
       rw [run_ne2 ho (hx.trans (congrArg Value.agg e1.symm)) (hy.trans (congrArg Value.agg e2.symm)) w, h16]
       rfl
      ·cases h
     ·cases h
    ·cases h
   ·cases h
  ·cases h
 ·rename_i s d x ho
  split at h
  ·rename_i k n hx
   split at h
   ·rename_i ds k' hs hd
    obtain rfl := Option.some.inj h
    unfold execOp
    simp [ho, hx, convert, run_underlying hs, run_underlying hd, Conv.intToInt, Result.andThen]
   ·cases h
  ·cases h
 ·cases h
theorem eval_T (T : Tm) (ds : List Deferred) : (⟨T.toArray, ds⟩ : Act).eval = evalT T := by
 funext x
 cases x with
 | tmp t => simp [Act.eval, evalT, tget_eq]
 | const v => rfl
 | global g => rfl
 | func f => rfl
section
variable {P : Program}
theorem aggB_ok {t : TypeId} {n : Nat} (h : aggB P t = some n) : ∃ d, P.underlying t = some d ∧ (match d with | .struct _ | .array _ _ => true | _ => false) = true ∧ (P.info? t).map (·.size) = some n := by
 unfold aggB at h
 split at h
 ·rename_i fs hu; exact ⟨_, hu, rfl, h⟩
 ·rename_i k e hu; exact ⟨_, hu, rfl, h⟩
 ·cases h
theorem takeK_eq (n : Nat) : ∀ (l : List Value), (n ≤ l.length ∧ ∀ k, takeK n l k = k (l.take n)) ∨ ∀ k, takeK n l k = .error 97 := by
 induction n with
 | zero => exact fun l => .inl ⟨Nat.zero_le _, fun k => by rw [List.take_zero]; rfl⟩
 | succ n ih =>
  intro l
  cases l with
  | nil => exact .inr fun k => rfl
  | cons x l =>
   rcases ih l with ⟨h, e⟩ | e
   ·exact .inl ⟨Nat.succ_le_succ h, fun k => by rw [List.take_succ_cons]; exact e _⟩
   ·exact .inr fun k => e _
theorem takeK_kp {A : List It} {n : Nat} {l : List Value} {k : List Value → Out} (hk : ∀ q, Kp A (k q)) : Kp A (takeK n l k) := by
 rcases takeK_eq n l with ⟨_, e⟩ | e
 ·rw [e]; exact hk _
 ·rw [e]; exact .err
theorem loadE_kp {x : Value} {t : TypeId} {s : Sg} {k : KK Value} (hk : KeepK k) : Kp s.acc (loadE P .check x t s k) := by
 unfold loadE
 split
 ·split
  ·exact pickRow_kp fun j r s => takeK_kp fun q => hk _ _
  ·exact evV_kp _ _ _ hk
 ·exact evV_kp _ _ _ hk
 ·exact .err
noncomputable def kAgg (n off : Nat) (k : KK Value) (_ : Nat) (r : Rw) (s : Sg) : Out := takeK n (r.c.drop off) fun q => k (.agg ⟨q⟩) s
theorem kAgg_kp {n off : Nat} {k : KK Value} (hk : KeepK k) (j : Nat) (r : Rw) (s : Sg) : Kp s.acc (kAgg n off k j r s) := takeK_kp fun _ => hk _ _
theorem loadE_st {x : Value} {t : TypeId} {s : Sg} {k : KK Value} (hk : KeepK k) (hg : good (loadE P .check x t s k)) :
  ∃ a v h, x = .pointer (some a) ∧ (∀ w0 w, SG w0 s.M w → (loadVar t a).run P w = .ok v w) ∧ ∀ A, ∃ B, A ⊆ B ∧ ∀ k', loadE P .check x t ⟨s.n, s.h, s.M, A⟩ k' = k' v ⟨s.n, h, s.M, B⟩ := by
 unfold loadE at hg
 split at hg
 ·rename_i b off
  split at hg
  ·rename_i n hn
   have hg : good (pickRow .check b s (kAgg n off k)) := hg
   obtain ⟨j, h, r, hj, hb, he⟩ := pickRow_inv (kAgg_kp hk) hg
   rw [he s.acc] at hg
   unfold kAgg at hg
   rcases takeK_eq n (r.c.drop off) with ⟨hl, e2⟩ | e2
   ·obtain ⟨d, hu, hd, hi⟩ := aggB_ok hn
    refine ⟨_, .agg ((r.c.drop off).take n).toArray, h, rfl, fun w0 w hS => ?_, fun A => ⟨.eqv (.int .u64 b) (.int .u64 r.b) :: A, fun _ h => List.mem_cons_of_mem _ h, fun k' => ?_⟩⟩
    ·obtain ⟨fr, hrow, _⟩ := hS.row (List.mem_of_getElem? hj)
     subst hb
     refine run_loadVar_mid w r.b off t ((r.c.drop off).take n) d (fun j u hu => ?_) hu (by cases d <;> first | rfl | cases hd) (by rw [hi, List.length_take, Nat.min_eq_left hl])
     rw [cell_of_row w r.b (off + j) _ r.t fr hrow]
     have hj : j < n := by
      rcases Nat.lt_or_ge j n with hj | hj
      ·exact hj
      ·rw [List.getElem?_eq_none (by rw [List.length_take]; omega)] at hu; cases hu
     rw [List.getElem?_take_of_lt hj, List.getElem?_drop] at hu
     simpa using hu
    ·unfold loadE
     simp only [hn]
     refine Eq.trans (he A (kAgg n off k')) ?_
     unfold kAgg
     rw [e2]
   ·rw [e2] at hg
    exact absurd hg not_good
  ·rename_i hn
   obtain ⟨v, h, hrun, hE⟩ := evV_st _ _ _ hk hg
   refine ⟨_, v, h, rfl, hrun, fun A => ?_⟩
   obtain ⟨B, hB, hE⟩ := hE A
   refine ⟨B, hB, fun k' => ?_⟩
   unfold loadE
   simp only [hn]
   exact hE k'
 ·rename_i a hne
  obtain ⟨v, h, hrun, hE⟩ := evV_st _ _ _ hk hg
  refine ⟨_, v, h, rfl, hrun, fun A => ?_⟩
  obtain ⟨B, hB, hE⟩ := hE A
  refine ⟨B, hB, fun k' => ?_⟩
  unfold loadE
  simp only
  exact hE k'
 ·exact absurd hg not_good
theorem loadE_ok {w0 w : World} {x : Value} {t : TypeId} {s : Sg} {k : KK Value} (hk : KeepK k) (hS : SG w0 s.M w) (hg : good (loadE P .check x t s k)) :
  ∃ a v h, x = .pointer (some a) ∧ (loadVar t a).run P w = .ok v w ∧ ∀ A, ∃ B, A ⊆ B ∧ ∀ k', loadE P .check x t ⟨s.n, s.h, s.M, A⟩ k' = k' v ⟨s.n, h, s.M, B⟩ := by
 obtain ⟨a, v, h, hx, hr, he⟩ := loadE_st hk hg
 exact ⟨a, v, h, hx, hr w0 w hS, he⟩
theorem askG_kp {ops : List Oper} {T : Tm} {o : Oper} {s : Sg} {k : Bool → Sg → Out} (hk : ∀ b s, Kp s.acc (k b s)) : Kp s.acc (askG .check ops T o s k) := by
 unfold askG
 split
 ·exact hk _ _
 ·split
  ·exact pickCon_kp fun b s => hk _ s
  ·exact hk _ _
theorem pickV_kp {x a b : Value} {s : Sg} {k : KK Value} (hk : KeepK k) : Kp s.acc (pickV .check x a b s k) := by
 unfold pickV
 split
 ·refine pickCon_kp fun b s => ?_
  cases b <;> exact hk _ _
 ·exact .err
theorem pickV_st {x a b : Value} {s : Sg} {k : KK Value} (hk : KeepK k) (hg : good (pickV .check x a b s k)) :
  ∃ q h, x = .bool q ∧ ∀ A, ∃ B, A ⊆ B ∧ ∀ k', pickV .check x a b ⟨s.n, s.h, s.M, A⟩ k' = k' (if q then a else b) ⟨s.n, h, s.M, B⟩ := by
 unfold pickV at hg
 split at hg
 ·rename_i x
  obtain ⟨q, h, hx, hE⟩ := pickCon_inv (k := fun x s => match x with | true => k a s | false => k b s) (fun x s => by cases x <;> exact hk _ _) hg
  refine ⟨q, h, by rw [hx], fun A => ⟨.con x q :: A, fun _ h => List.mem_cons_of_mem _ h, fun k' => ?_⟩⟩
  unfold pickV
  refine (hE A (fun x s => match x with | true => k' a s | false => k' b s)).trans ?_
  cases q <;> rfl
 ·exact absurd hg not_good
theorem run_pick {P : Program} {ρ : Operand → Value} {o : Oper} {c a b : Operand} {q : Bool} (ho : o.op = .pick c a b) (hc : ρ c = .bool q) (w : World) : (execOp ρ o).run P w = .ok (.value (if q then ρ a else ρ b)) w := by
 unfold execOp
 cases q <;> simp [ho, hc, asBool]
theorem yield_T (ops : List Oper) (T : Tm) (j : Nat) : yielded ops.toArray T.toArray j = yieldT ops T j := by
 unfold yielded yieldT
 have e : (fun x => T.toArray[x]?) = tget? T := by funext d; exact (tget?_eq T d).symm
 simp only [List.getElem?_toArray] at e ⊢
 simp only [e]
 rfl
theorem askG_inv {ops : List Oper} {T : Tm} {o : Oper} {s : Sg} {k : Bool → Sg → Out} (hk : ∀ b s, Kp s.acc (k b s)) (hg : good (askG .check ops T o s k)) :
  ∃ g h, Region.wanted o (yielded ops.toArray T.toArray) = g ∧ ∀ A, ∃ B, A ⊆ B ∧ ∀ k', askG .check ops T o ⟨s.n, s.h, s.M, A⟩ k' = k' g ⟨s.n, h, s.M, B⟩ := by
 unfold askG at hg
 split at hg
 ·rename_i hgd
  exact ⟨true, s.h, by simp [Region.wanted, hgd], fun A => ⟨A, fun _ h => h, fun k' => by unfold askG; simp only [hgd]⟩⟩
 ·rename_i j want hgd
  split at hg
  ·rename_i b hb
   obtain ⟨g, h, hc, he⟩ := pickCon_inv (k := fun b s => k (b == want) s) (fun b s => hk _ s) hg
   refine ⟨g == want, h, ?_, fun A => ⟨.con b g :: A, fun _ h => List.mem_cons_of_mem _ h, fun k' => ?_⟩⟩
   ·unfold Region.wanted
    simp only [hgd, yield_T, hb]
    rw [← hc]
    cases b <;> cases want <;> rfl
   ·unfold askG
    simp only [hgd, hb]
    exact he A fun b s => k' (b == want) s
  ·rename_i hb
   refine ⟨false, s.h, ?_, fun A => ⟨A, fun _ h => h, fun k' => by unfold askG; simp only [hgd, hb]⟩⟩
   unfold Region.wanted
   simp only [hgd, yield_T, hb]
   rfl
theorem storeE_kp {β : Nat → Fr} {x v : Value} {t : TypeId} {s : Sg} {k : Sg → Out} (hk : ∀ s, Kp s.acc (k s)) : Kp s.acc (storeE P .check β x v t s k) := by
 unfold storeE
 split
 ·split
  ·split
   ·refine pickRow_kp fun j r s => ?_
    split
    ·rw [putR_eq]; exact hk ⟨s.n, s.h, _, s.acc⟩
    ·exact .err
   ·exact .err
  ·exact evS_kp _ _ _ fun _ s => hk s
 ·exact evS_kp _ _ _ fun _ s => hk s
 ·exact .err
noncomputable def kPut (n : Nat) (c : List Value) (k : Sg → Out) (j : Nat) (r : Rw) (s : Sg) : Out := match r.own && (Nat.beq n r.c.length && (Nat.beq n c.length && c.all (·.oneCell'))) with
 | true => putR s.M j ⟨r.b, c, r.t, true⟩ fun M => k ⟨s.n, s.h, M, s.acc⟩
 | false => .error 33
theorem kPut_kp {n : Nat} {c : List Value} {k : Sg → Out} (hk : ∀ s, Kp s.acc (k s)) (j : Nat) (r : Rw) (s : Sg) : Kp s.acc (kPut n c k j r s) := by
 unfold kPut
 split
 ·rw [putR_eq]; exact hk ⟨s.n, s.h, _, s.acc⟩
 ·exact .err
theorem storeE_ok {w0 w : World} {x v : Value} {t : TypeId} {γ : Nat → Fr} {n : Nat} {h : List It} {M : List Rw} {A : (Nat → Fr) → List It} {K : (Nat → Fr) → Sg → Out} (hk : ∀ β s, Kp s.acc (K β s)) (hS : SG w0 M w)
  (hg : ∀ β, Ag n β γ → good (storeE P .check β x v t ⟨n, h, M, A β⟩ (K β))) : ∃ a w', x = .pointer (some a) ∧ (storeVar t a v).run P w = .ok () w' ∧ On w0 n γ (fun β (_ : Unit) s => K β s) () w' := by
 by_cases hx : ∃ b, x = .pointer (some ⟨b, 0, none⟩)
 ·obtain ⟨b, rfl⟩ := hx
  by_cases hv : ∃ c, v = .agg c
  ·obtain ⟨⟨c⟩, rfl⟩ := hv
   cases hi : (P.info? t).map (·.size) with
   | none =>
    have h0 := hg γ .refl
    unfold storeE at h0
    simp only [hi] at h0
    exact absurd h0 not_good
   | some m =>
    have e : ∀ β, storeE P .check β (.pointer (some ⟨b, 0, none⟩)) (.agg ⟨c⟩) t ⟨n, h, M, A β⟩ (K β) = pickRow .check b ⟨n, h, M, A β⟩ (kPut m c (K β)) := fun β => by
     unfold storeE
     simp only [hi]
     rfl
    have h0 := hg γ .refl
    rw [e] at h0
    obtain ⟨j, h', r, hj, hb, he⟩ := pickRow_inv (kPut_kp (hk γ)) h0
    rw [he (A γ)] at h0
    unfold kPut at h0
    split at h0
    ·rename_i hq
     have hq0 := hq
     simp only [Bool.and_eq_true] at hq
     obtain ⟨ho, h1, h2, h3⟩ := hq
     have h1 := Nat.eq_of_beq_eq_true h1
     have h2 := Nat.eq_of_beq_eq_true h2
     obtain ⟨fr, hrow, hfr⟩ := hS.row (List.mem_of_getElem? hj)
     obtain rfl := hfr ho
     refine ⟨_, w.setRow b c.toArray, rfl, ?_, γ, n, h', M.set j ⟨r.b, c, r.t, true⟩, fun β => .eqv (.int .u64 b) (.int .u64 r.b) :: A β, ?_, Nat.le_refl _, .refl, fun β hβ => ?_⟩
     ·subst hb
      exact run_storeVar_row w r.b r.t t r.c.toArray c.toArray hrow (by simp [hi, h2]) (by simp; omega) (by simpa using h3)
     ·subst hb
      exact hS.set hj ho c
     ·have h4 := hg β hβ
      rw [e, he (A β)] at h4
      unfold kPut at h4
      rw [hq0] at h4
      simp only [putR_eq] at h4
      exact h4
    ·exact absurd h0 not_good
  ·have e : ∀ β, storeE P .check β (.pointer (some ⟨b, 0, none⟩)) v t ⟨n, h, M, A β⟩ (K β) = evS P .check β (storeVar t ⟨b, 0, none⟩ v) ⟨n, h, M, A β⟩ (fun _ s => K β s) := fun β => by
    unfold storeE
    cases v <;> first | rfl | exact absurd ⟨_, rfl⟩ hv
   obtain ⟨u, w', hrun, hon⟩ := evS_ok (storeVar t ⟨b, 0, none⟩ v) γ n h M A w (fun β (_ : Unit) s => K β s) (fun β _ s => hk β s) hS (fun β hβ => by rw [← e]; exact hg β hβ)
   exact ⟨_, w', rfl, hrun, hon⟩
 ·have h0 := hg γ .refl
  unfold storeE at h0
  split at h0
  ·exact absurd ⟨_, rfl⟩ hx
  ·rename_i a hne
   have e : ∀ β, storeE P .check β (.pointer (some a)) v t ⟨n, h, M, A β⟩ (K β) = evS P .check β (storeVar t a v) ⟨n, h, M, A β⟩ (fun _ s => K β s) := fun β => by
    unfold storeE
    split
    ·rename_i heq
     exact absurd ⟨_, heq⟩ hx
    ·rename_i heq; cases heq; rfl
    ·rename_i h1 h2; exact absurd rfl (h2 a)
   obtain ⟨u, w', hrun, hon⟩ := evS_ok (storeVar t a v) γ n h M A w (fun β (_ : Unit) s => K β s) (fun β _ s => hk β s) hS (fun β hβ => by rw [← e]; exact hg β hβ)
   exact ⟨_, w', rfl, hrun, hon⟩
  ·exact absurd h0 not_good
end
instance : LawfulMonad Sem := LawfulMonad.mk'
 (id_map := fun x => by
  show Sem.bind x (fun a => Sem.pure (id a)) = x
  induction x <;> simp_all [Sem.bind] <;> (funext b; cases b <;> simp_all))
 (pure_bind := fun _ _ => rfl)
 (bind_assoc := fun x f g => by
  show Sem.bind (Sem.bind x f) g = Sem.bind x (fun a => Sem.bind (f a) g)
  induction x <;> simp_all [Sem.bind] <;> (funext b; cases b <;> simp_all))
noncomputable def resF (T : Tm) : ResultVar → Sem Value
 | .tmp t => pure (T.toArray.getD t undef)
 | .cell a t => do loadVar t (← asAddr (T.toArray.getD a undef))
def tupV (vs : List Value) : Value := match vs with
 | [v] => v
 | vs => .tuple vs.toArray
theorem results_list (fn : Func) (T : Tm) : results fn T.toArray = (do let vs ← fn.results.toList.mapM (resF T); pure (tupV vs)) := by
 unfold results
 rw [Array.mapM_eq_mapM_toList]
 have e : (fun x => match x with | .tmp t => pure (T.toArray.getD t undef) | .cell a t => do loadVar t (← asAddr (T.toArray.getD a undef)) : ResultVar → Sem Value) = resF T := by
  funext x; cases x <;> rfl
 have e2 : ∀ vs : List Value, (if h : vs.toArray.size = 1 then vs.toArray[0] else .tuple vs.toArray) = tupV vs := by
  intro vs
  match vs with
  | [] => rfl
  | [v] => rfl
  | a :: b :: l => simp [tupV]
 simp only [bind_map_left]
 congr 1
 ·funext vs
  exact congrArg pure (e2 vs)
end Ev
end Go.Proofs.Ytjoalcaooccbiaa
/- EvA -/
namespace Go.Proofs.Ytjoalcaooccbiaa
open Go.RowKit VecM
namespace Ev
theorem joinK_eq (l : List Value) : ∀ (r : List Value) (k : List Value → Out), joinK l r k = k (l ++ r) := by
 induction l with
 | nil => exact fun r k => rfl
 | cons x l ih => exact fun r k => ih r _
theorem delR_eq (M : List Rw) : ∀ (n : Nat) (k : List Rw → Out), delR M n k = k (M.eraseIdx n) := by
 induction M with
 | nil => exact fun n k => rfl
 | cons x M ih =>
  intro n k
  cases n with
  | zero => rfl
  | succ n => exact ih n _
theorem srcK_kp {size : Nat} {y : Value} {s : Sg} {k : Nat → List Value → Sg → Out} (hk : ∀ m q s, Kp s.acc (k m q s)) : Kp s.acc (srcK .check size y s k) := by
 unfold srcK
 split
 ·exact pickRow_kp fun _ r s => takeK_kp fun q => hk _ _ _
 ·exact .err
theorem appFin_kp {β : Nat → Fr} {e : TypeId} {size bytes n m : Nat} {xs news : List Value} {s : Sg} {k : KK Value} (hk : KeepK k) : Kp s.acc (appFin β e size bytes n m xs news s k) := by
 unfold appFin
 split
 ·rw [joinK_eq, joinK_eq]
  exact hk _ _
 ·exact .err
noncomputable def kApp (_P : Program) (β : Nat → Fr) (e : TypeId) (size bytes : Nat) (x : Value) (k : KK Value) (m : Nat) (news : List Value) (s : Sg) : Out :=
 match x with
 | .slice none 0 0 => appFin β e size bytes 0 m [] news s k
 | .slice (some ⟨b, 0, none⟩) n cap => pickRow .check b s fun j r s => match r.own && Nat.beq r.t e with
  | true => takeK (Nat.mul n size) r.c fun xs => delR s.M j fun M => appFin β e size bytes n m xs news ⟨s.n, s.h, M, capI .check cap (Nat.div r.c.length size) s.acc⟩ k
  | false => .error 99
 | _ => .error 100
theorem kApp_kp {P : Program} {β : Nat → Fr} {e : TypeId} {size bytes : Nat} {x : Value} {k : KK Value} (hk : KeepK k) (m : Nat) (news : List Value) (s : Sg) : Kp s.acc (kApp P β e size bytes x k m news s) := by
 unfold kApp
 split
 ·exact appFin_kp hk
 ·refine pickRow_kp fun j r s => ?_
  split
  ·refine takeK_kp fun xs => ?_
   rw [delR_eq]
   exact (appFin_kp (s := ⟨s.n, s.h, _, capI .check _ _ s.acc⟩) hk).tail
  ·exact .err
 ·exact .err
theorem appE_eq {P : Program} {β : Nat → Fr} {x y : Value} {t e : TypeId} {size bytes : Nat} {s : Sg} {k : KK Value} (h : appT P t = some (e, size, bytes)) : appE P .check β x y t s k = srcK .check size y s (kApp P β e size bytes x k) := by
 unfold appE
 rw [h]
 rfl
theorem appE_kp {P : Program} {β : Nat → Fr} {x y : Value} {t : TypeId} {s : Sg} {k : KK Value} (hk : KeepK k) : Kp s.acc (appE P .check β x y t s k) := by
 cases h : appT P t with
 | none => unfold appE; rw [h]; exact .err
 | some p =>
  obtain ⟨e, size, bytes⟩ := p
  rw [appE_eq h]
  exact srcK_kp fun m q s => kApp_kp hk m q s
theorem srcK_inv {size : Nat} {y : Value} {s : Sg} {k : Nat → List Value → Sg → Out} (hk : ∀ m q s, Kp s.acc (k m q s)) (hg : good (srcK .check size y s k)) :
  ∃ b off m c r h, y = .slice (some ⟨b, off, none⟩) m c ∧ r ∈ s.M ∧ r.b = b ∧ m * size ≤ (r.c.drop off).length ∧
   ∀ A k', srcK .check size y ⟨s.n, s.h, s.M, A⟩ k' = k' m ((r.c.drop off).take (m * size)) ⟨s.n, h, s.M, .eqv (.int .u64 b) (.int .u64 r.b) :: A⟩ := by
 by_cases hy : ∃ b off m c, y = .slice (some ⟨b, off, none⟩) m c
 ·obtain ⟨b, off, m, c, rfl⟩ := hy
  have e : ∀ s k, srcK .check size (.slice (some ⟨b, off, none⟩) m c) s k = pickRow .check b s fun _ r s => takeK (m * size) (r.c.drop off) fun q => k m q s := fun _ _ => rfl
  rw [e] at hg
  obtain ⟨j, h, r, hj, hb, hE⟩ := pickRow_inv (fun j r s => takeK_kp fun q => hk m q s) hg
  have hg2 := hg
  rw [show s = ⟨s.n, s.h, s.M, s.acc⟩ from rfl, hE] at hg2
  rcases takeK_eq (m * size) (r.c.drop off) with ⟨hl, e2⟩ | e2
  ·refine ⟨b, off, m, c, r, h, rfl, List.mem_of_getElem? hj, hb.symm, hl, fun A k' => ?_⟩
   rw [e, hE, e2]
  ·rw [e2] at hg2
   exact absurd hg2 not_good
 ·refine absurd hg ?_
  unfold srcK
  split
  ·exact absurd ⟨_, _, _, _, rfl⟩ hy
  ·exact not_good
theorem St.perm {w0 w : World} {E E' : List Ent} (h : St w0 E w) (hp : E.Perm E') : St w0 E' w :=
 ⟨h.1, (hp.map Ent.b).nodup_iff.1 h.2.1, fun e he => h.2.2 e (hp.mem_iff.2 he)⟩
theorem SG.perm {w0 w : World} {M M' : List Rw} (h : SG w0 M w) (hp : M.Perm M') : SG w0 M' w :=
 ⟨St.perm h.1 ((hp.filter _).map _), fun r hr => h.2 r (hp.mem_iff.2 hr)⟩
theorem set_perm : ∀ (M : List Rw) (j : Nat) (a : Rw), j < M.length → (M.set j a).Perm (a :: M.eraseIdx j)
 | [], _, _, h => absurd h (Nat.not_lt_zero _)
 | _x :: _M, 0, _a, _ => .refl _
 | x :: M, j + 1, a, h => ((set_perm M j a (Nat.lt_of_succ_lt_succ h)).cons x).trans (.swap a x _)
theorem SG.sub {w0 w : World} {M M' : List Rw} (h : SG w0 M w) (hs : M'.Sublist M) : SG w0 M' w :=
 ⟨h.1.sub ((hs.filter _).map _), fun r hr => h.2 r (hs.subset hr)⟩
theorem appT_inv {P : Program} {t e : TypeId} {size bytes : Nat} (h : appT P t = some (e, size, bytes)) : P.underlying t = some (.slice e) ∧ ∃ i z, P.info? e = some i ∧ i.zero = some z ∧ i.size = size ∧ i.bytes = bytes ∧ z.cells.size = size ∧ 0 < size := by
 unfold appT at h
 split at h
 ·rename_i e' hu
  split at h
  ·rename_i i hi
   split at h
   ·rename_i z hz
    split at h
    ·rename_i hb
     simp only [Bool.and_eq_true] at hb
     cases h
     exact ⟨hu, i, z, hi, hz, rfl, rfl, Nat.eq_of_beq_eq_true hb.2, (blt_iff _ _).1 hb.1⟩
    ·cases h
   ·cases h
  ·cases h
 ·cases h
theorem appFin_inv {β : Nat → Fr} {e : TypeId} {size bytes n m : Nat} {xs news : List Value} {s : Sg} {k : KK Value} (hg : good (appFin β e size bytes n m xs news s k)) :
  0 < m ∧ n + m ≤ 4000000 ∧ (n + m) * bytes ≤ 140737488355328 ∧ (∀ u ∈ news, u.oneCell' = true) := by
 unfold appFin at hg
 split at hg
 ·rename_i h
  simp only [Bool.and_eq_true] at h
  obtain ⟨h1, h2, h3, h4⟩ := h
  exact ⟨(blt_iff _ _).1 h1, Nat.le_of_ble_eq_true h2, Nat.le_of_ble_eq_true h3, fun u hu => List.all_eq_true.1 h4 u hu⟩
 ·exact absurd hg not_good
theorem appFin_eq {β : Nat → Fr} {e : TypeId} {size bytes n m : Nat} {xs news : List Value} {k : KK Value} (h : 0 < m ∧ n + m ≤ 4000000 ∧ (n + m) * bytes ≤ 140737488355328 ∧ (∀ u ∈ news, u.oneCell' = true)) (s : Sg) :
  appFin β e size bytes n m xs news s k = k (.slice (some ⟨(β s.n).b, 0, none⟩) (n + m) ((xs ++ (news ++ (β s.n).t)).length / size)) ⟨s.n + 1, s.h, ⟨(β s.n).b, xs ++ (news ++ (β s.n).t), e, true⟩ :: s.M, s.acc⟩ := by
 unfold appFin
 have hb : (Nat.blt 0 m && (Nat.ble (Nat.add n m) 4000000 && (Nat.ble (Nat.mul (Nat.add n m) bytes) 140737488355328 && news.all (·.oneCell')))) = true := by
  simp only [Bool.and_eq_true]
  exact ⟨(blt_iff _ _).2 h.1, Nat.ble_eq_true_of_le h.2.1, Nat.ble_eq_true_of_le h.2.2.1, List.all_eq_true.2 h.2.2.2⟩
 rw [hb]
 simp only [joinK_eq]
 rfl
theorem app_on {w0 w' : World} {γ : Nat → Fr} {n0 n m : Nat} {h : List It} {M : List Rw} {A : (Nat → Fr) → List It} {K : (Nat → Fr) → KK Value} {e : TypeId} {size bytes : Nat} {xs news : List Value} {g : Nat} {tl : List Value}
  (hc : 0 < m ∧ n + m ≤ 4000000 ∧ (n + m) * bytes ≤ 140737488355328 ∧ (∀ u ∈ news, u.oneCell' = true))
  (hS : SG w0 (⟨g, xs ++ (news ++ tl), e, true⟩ :: M) w') (hg : ∀ β, Ag n0 β γ → good (appFin β e size bytes n m xs news ⟨n0, h, M, A β⟩ (K β))) :
  On w0 n0 γ K (.slice (some ⟨g, 0, none⟩) (n + m) ((xs ++ (news ++ tl)).length / size)) w' := by
 refine ⟨upN γ n0 ⟨g, fun _ => undef, tl⟩, n0 + 1, h, ⟨g, xs ++ (news ++ tl), e, true⟩ :: M, A, hS, Nat.le_succ _, upN_ag _ _ _, fun β hβ => ?_⟩
 have h1 := hg β ((hβ.le (Nat.le_succ n0)).trans (upN_ag γ n0 _))
 rw [appFin_eq hc] at h1
 have h2 : β n0 = ⟨g, fun _ => undef, tl⟩ := by rw [hβ n0 (Nat.lt_succ_self _), upN_at]
 simp only [h2] at h1
 exact h1
theorem cells_src {w : World} {b off m : Nat} {c : List Value} {t : TypeId} {fr : Nat × Nat} (h : w.heap[b]? = some (.cells c.toArray t fr)) : ∀ j u, ((c.drop off).take m)[j]? = some u → w.cell? ((⟨b, off, none⟩ : Addr).add j) = some u := by
 intro j u hu
 have hadd : (⟨b, off, none⟩ : Addr).add j = ⟨b, off + j, none⟩ := by unfold Addr.add; split <;> simp_all
 rw [hadd, cell_of_row w b (off + j) _ t fr h]
 have hj : j < m := by
  rcases Nat.lt_or_ge j m with hj | hj
  ·exact hj
  ·rw [List.getElem?_eq_none (by rw [List.length_take]; omega)] at hu; cases hu
 rw [List.getElem?_take_of_lt hj, List.getElem?_drop] at hu
 simpa using hu
theorem appE_ok {P : Program} {w0 w : World} {x y : Value} {t ty : TypeId} {γ : Nat → Fr} {n : Nat} {h : List It} {M : List Rw} {A : (Nat → Fr) → List It} {K : (Nat → Fr) → KK Value} (hk : ∀ β, KeepK (K β)) (hS : SG w0 M w)
  (hg : ∀ β, Ag n β γ → good (appE P .check β x y t ⟨n, h, M, A β⟩ (K β))) : ∃ v w', (Builtin.append_ #[t, t] ty #[x, y]).run P w = .ok v w' ∧ On w0 n γ K v w' := by
 cases ha : appT P t with
 | none =>
  have h0 := hg γ .refl
  unfold appE at h0
  rw [ha] at h0
  exact absurd h0 not_good
 | some p =>
  obtain ⟨e, size, bytes⟩ := p
  obtain ⟨hu, i, z, hi, hz, hsize, hby, hzs, hpos⟩ := appT_inv ha
  have hg1 : ∀ β, Ag n β γ → good (srcK .check size y ⟨n, h, M, A β⟩ (kApp P β e size bytes x (K β))) := fun β hβ => by rw [← appE_eq ha]; exact hg β hβ
  obtain ⟨b2, off, m, c2, r2, h2, rfl, hr2, hb2, hm2, hE⟩ := srcK_inv (fun m q s => kApp_kp (P := P) (hk γ) m q s) (hg1 γ .refl)
  have hg2 : ∀ β, Ag n β γ → good (kApp P β e size bytes x (K β) m ((r2.c.drop off).take (m * size)) ⟨n, h2, M, .eqv (.int .u64 b2) (.int .u64 r2.b) :: A β⟩) := fun β hβ => by
   have h3 := hg1 β hβ
   rw [hE (A β)] at h3
   exact h3
  subst hb2
  obtain ⟨fr2, hrow2, _⟩ := hS.row hr2
  have hsrc := cells_src (off := off) (m := m * size) hrow2
  have hnl : ((r2.c.drop off).take (m * size)).length = m * i.size := by rw [List.length_take, hsize]; exact Nat.min_eq_left hm2
  generalize (r2.c.drop off).take (m * size) = news at *
  generalize hA1 : (fun β => (.eqv (.int .u64 r2.b) (.int .u64 r2.b) :: A β : List It)) = A1
  have hg2 : ∀ β, Ag n β γ → good (kApp P β e size bytes x (K β) m news ⟨n, h2, M, A1 β⟩) := fun β hβ => by rw [← hA1]; exact hg2 β hβ
  clear hg hg1 hE hA1
  by_cases hx0 : x = .slice none 0 0
  ·subst hx0
   have hg3 : ∀ β, Ag n β γ → good (appFin β e size bytes 0 m [] news ⟨n, h2, M, A1 β⟩ (K β)) := hg2
   have hc := appFin_inv (hg3 γ .refl)
   obtain ⟨hm0, hnm, hbt, hone⟩ := hc
   have hr := run_append_nil (P := P) w t ty e i z hu hi hz ⟨r2.b, off, none⟩ m c2 news hnl hsrc hm0 (by omega) (by rw [hby]; rw [Nat.zero_add] at hbt; omega)
   refine ⟨_, _, hr, ?_⟩
   have hge := grownCap_ge w m 0 e
   have hS1 := (hS.grow (Gr.drew (Gr.refl w))).alloc ([] ++ (news ++ (Builtin.zeroCells z.cells (grownCap w m 0 e - m)).toList)) e
   have hon := app_on (xs := []) (news := news) (tl := (Builtin.zeroCells z.cells (grownCap w m 0 e - m)).toList) ⟨hm0, hnm, hbt, hone⟩ hS1 hg3
   have el : ([] ++ (news ++ (Builtin.zeroCells z.cells (grownCap w m 0 e - m)).toList)).length / size = grownCap w m 0 e := by
    have e1 : ([] ++ (news ++ (Builtin.zeroCells z.cells (grownCap w m 0 e - m)).toList)).length = grownCap w m 0 e * size := by
     simp only [List.nil_append, List.length_append, Array.length_toList, size_zeroCells, hzs, hnl, hsize]
     rw [← Nat.add_mul]
     congr 1
     omega
    rw [e1, Nat.mul_div_cancel _ hpos]
   rw [el, Nat.zero_add] at hon
   have ea : ([] ++ (news ++ (Builtin.zeroCells z.cells (grownCap w m 0 e - m)).toList)).toArray = news.toArray ++ Builtin.zeroCells z.cells (grownCap w m 0 e - m) := by
    apply Array.ext'
    simp
   rw [ea] at hon
   exact hon
  ·by_cases hx : ∃ b n1 cap, x = .slice (some ⟨b, 0, none⟩) n1 cap
   ·obtain ⟨b, n1, cap, rfl⟩ := hx
    have e1 : ∀ (β : Nat → Fr) (s : Sg), kApp P β e size bytes (.slice (some ⟨b, 0, none⟩) n1 cap) (K β) m news s = pickRow .check b s fun j r s => match r.own && Nat.beq r.t e with
     | true => takeK (Nat.mul n1 size) r.c fun xs => delR s.M j fun M => appFin β e size bytes n1 m xs news ⟨s.n, s.h, M, capI .check cap (Nat.div r.c.length size) s.acc⟩ (K β)
     | false => .error 99 := fun β s => rfl
    have hkk : ∀ (β : Nat → Fr) (j : Nat) (r : Rw) (s : Sg), Kp s.acc (match r.own && Nat.beq r.t e with
     | true => takeK (Nat.mul n1 size) r.c fun xs => delR s.M j fun M => appFin β e size bytes n1 m xs news ⟨s.n, s.h, M, capI .check cap (Nat.div r.c.length size) s.acc⟩ (K β)
     | false => .error 99) := fun β j r s => by
     split
     ·refine takeK_kp fun xs => ?_
      rw [delR_eq]
      exact (appFin_kp (s := ⟨s.n, s.h, _, capI .check cap (Nat.div r.c.length size) s.acc⟩) (hk β)).tail
     ·exact .err
    have h0 := hg2 γ .refl
    rw [e1] at h0
    obtain ⟨j, h3, r, hj, hb, hE⟩ := pickRow_inv (hkk γ) h0
    replace hj : M[j]? = some r := hj
    have hg3 : ∀ β, Ag n β γ → good (match r.own && Nat.beq r.t e with
     | true => takeK (Nat.mul n1 size) r.c fun xs => delR M j fun M => appFin β e size bytes n1 m xs news ⟨n, h3, M, capI .check cap (Nat.div r.c.length size) (.eqv (.int .u64 b) (.int .u64 r.b) :: A1 β)⟩ (K β)
     | false => .error 99) := fun β hβ => by
     have h4 := hg2 β hβ
     rw [e1, hE (A1 β)] at h4
     exact h4
    cases hq : (r.own && Nat.beq r.t e) with
    | false =>
     have h4 := hg3 γ .refl
     rw [hq] at h4
     exact absurd h4 not_good
    | true =>
     simp only [hq] at hg3
     simp only [Bool.and_eq_true] at hq
     obtain ⟨ho, hte⟩ := hq
     have hte := Nat.eq_of_beq_eq_true hte
     rcases takeK_eq (Nat.mul n1 size) r.c with ⟨hn1, e2⟩ | e2
     all_goals try replace hn1 : n1 * size ≤ r.c.length := hn1
     ·simp only [e2, delR_eq] at hg3
      have h5 := hg3 γ .refl
      have hc := appFin_inv h5
      obtain ⟨hm0, hnm, hbt, hone⟩ := hc
      have hcap : cap = r.c.length / size := by
       have h6 := Kp.holds (x := .eqv (.int .u64 cap) (.int .u64 (Nat.div r.c.length size))) (A := .eqv (.int .u64 b) (.int .u64 r.b) :: A1 γ) (appFin_kp (s := ⟨n, h3, M.eraseIdx j, capI .check cap (Nat.div r.c.length size) (.eqv (.int .u64 b) (.int .u64 r.b) :: A1 γ)⟩) (hk γ)) h5
       simp only [It.l, It.r, Lv.v.injEq, Value.int.injEq, true_and] at h6
       exact Int.ofNat_inj.1 h6
      subst hb
      obtain ⟨fr, hrow, hfr⟩ := hS.row (List.mem_of_getElem? hj)
      obtain rfl := hfr ho
      subst hte
      have hjl := (List.getElem?_eq_some_iff.1 hj).1
      have hcl : cap * size ≤ r.c.length := by rw [hcap]; exact Nat.div_mul_le_self _ _
      by_cases hroom : n1 + m ≤ cap
      ·have hfit : (n1 + m) * size ≤ r.c.length := Nat.le_trans (Nat.mul_le_mul_right _ hroom) hcl
       have hr := run_append_room (P := P) w t ty r.t i hu hi r.b n1 cap r.c.toArray hrow ⟨r2.b, off, none⟩ m c2 news hnl hsrc hone hroom (by rw [hnl, hsize, ← Nat.add_mul]; simpa using hfit)
       refine ⟨_, _, hr, ?_⟩
       have hS1 := hS.set hj ho (r.c.take (n1 * size) ++ (news ++ r.c.drop ((n1 + m) * size)))
       have hp := set_perm M j ⟨r.b, r.c.take (n1 * size) ++ (news ++ r.c.drop ((n1 + m) * size)), r.t, true⟩ hjl
       have hon := app_on (xs := r.c.take (n1 * size)) (news := news) (tl := r.c.drop ((n1 + m) * size)) ⟨hm0, hnm, hbt, hone⟩ (hS1.perm hp) hg3
       have el : (r.c.take (n1 * size) ++ (news ++ r.c.drop ((n1 + m) * size))).length / size = cap := by
        have e1 : (r.c.take (n1 * size) ++ (news ++ r.c.drop ((n1 + m) * size))).length = r.c.length := by
         simp only [List.length_append, List.length_take, List.length_drop, hnl, hsize]
         rw [Nat.min_eq_left hn1]
         rw [Nat.add_mul] at hfit ⊢
         omega
        rw [e1, hcap]
       rw [el] at hon
       have ea : (List.take (n1 * i.size) r.c.toArray.toList ++ news ++ List.drop (n1 * i.size + news.length) r.c.toArray.toList).toArray = (r.c.take (n1 * size) ++ (news ++ r.c.drop ((n1 + m) * size))).toArray := by
        rw [hnl, hsize, Nat.add_mul]
        simp
       rw [ea]
       exact hon
      ·have holds := cells_src (off := 0) (m := n1 * size) hrow
       have hxl : (r.c.take (n1 * size)).length = n1 * size := by rw [List.length_take]; exact Nat.min_eq_left hn1
       have hr := run_append_grow (P := P) w t ty r.t i z hu hi hz ⟨r.b, 0, none⟩ n1 cap (r.c.take (n1 * size)) (by rw [hxl, hsize]) (by simpa using holds) ⟨r2.b, off, none⟩ m c2 news hnl hsrc (by omega) (by omega) (growslice_fits (by omega) (by rw [hby]; exact hbt))
       refine ⟨_, _, hr, ?_⟩
       have hge := grownCap_ge w (n1 + m) cap r.t
       have hS1 := ((hS.grow (Gr.drew (Gr.refl w))).alloc (r.c.take (n1 * size) ++ (news ++ (Builtin.zeroCells z.cells (grownCap w (n1 + m) cap r.t - (n1 + m))).toList)) r.t).sub (List.Sublist.cons_cons _ (List.eraseIdx_sublist M j))
       have hon := app_on (xs := r.c.take (n1 * size)) (news := news) (tl := (Builtin.zeroCells z.cells (grownCap w (n1 + m) cap r.t - (n1 + m))).toList) ⟨hm0, hnm, hbt, hone⟩ hS1 hg3
       have el : (r.c.take (n1 * size) ++ (news ++ (Builtin.zeroCells z.cells (grownCap w (n1 + m) cap r.t - (n1 + m))).toList)).length / size = grownCap w (n1 + m) cap r.t := by
        have e1 : (r.c.take (n1 * size) ++ (news ++ (Builtin.zeroCells z.cells (grownCap w (n1 + m) cap r.t - (n1 + m))).toList)).length = grownCap w (n1 + m) cap r.t * size := by
         simp only [List.length_append, hxl, Array.length_toList, size_zeroCells, hzs, hnl, hsize]
         rw [← Nat.add_mul, ← Nat.add_mul]
         congr 1
         omega
        rw [e1, Nat.mul_div_cancel _ hpos]
       rw [el] at hon
       have ea : (r.c.take (n1 * size) ++ (news ++ (Builtin.zeroCells z.cells (grownCap w (n1 + m) cap r.t - (n1 + m))).toList)).toArray = (r.c.take (n1 * size)).toArray ++ news.toArray ++ Builtin.zeroCells z.cells (grownCap w (n1 + m) cap r.t - (n1 + m)) := by
        apply Array.ext'
        simp
       rw [ea] at hon
       exact hon
     ·have h4 := hg3 γ .refl
      rw [e2] at h4
      exact absurd h4 not_good
   ·have h4 := hg2 γ .refl
    refine absurd h4 ?_
    unfold kApp
    split
    ·exact absurd rfl hx0
    ·exact absurd ⟨_, _, _, rfl⟩ hx
    ·exact not_good
theorem appOf_inv {o : Oper} {x y : Operand} {t : TypeId} (h : appOf o = some (x, y, t)) : o.guard = none ∧ ∃ ci : Call, o.op = .call ci ∧ ci.callee = .builtin .append ∧ ci.args = #[x, y] ∧ ci.argTypes = #[t, t] := by
 unfold appOf at h
 split at h
 ·cases h
 ·rename_i hgd
  split at h
  ·rename_i ci hop
   split at h
   ·rename_i hcal
    split at h
    ·rename_i s' x' hargs
     split at h
     ·rename_i t1 t2 hty
      split at h
      ·rename_i ht
       cases h
       have := Nat.eq_of_beq_eq_true ht
       subst this
       exact ⟨hgd, ci, hop, hcal, hargs, hty⟩
      ·cases h
     ·cases h
    ·cases h
   ·cases h
  ·cases h
theorem exec_app {P : Program} {ρ : Operand → Value} {o : Oper} {x y : Operand} {t : TypeId} {v : Value} {w w' : World} (h : appOf o = some (x, y, t)) (hr : (Builtin.append_ #[t, t] o.type #[ρ x, ρ y]).run P w = .ok v w') :
  (execOp ρ o).run P w = .ok (.value v) w' := by
 obtain ⟨_, ci, hop, hcal, hargs, hty⟩ := appOf_inv h
 unfold execOp
 simp only [hop, resolve, invoke, builtin, Sem.run_bind, Sem.run_pure, Result.andThen_ok, List.map_toArray, List.map_cons, List.map_nil, hcal, hargs, hty, hr]
end Ev
end Go.Proofs.Ytjoalcaooccbiaa
/- EvP -/
namespace Go.Proofs.Ytjoalcaooccbiaa
open Go.RowKit VecM
namespace Ev
section
variable {P : Program}
theorem evR_kp {T : Tm} {k : KK Value} (hk : KeepK k) : ∀ (rs : List ResultVar) (s : Sg) (acc : List Value), Kp s.acc (evR P .check rs T s acc k) := by
 intro rs
 induction rs with
 | nil =>
  intro s acc
  unfold evR
  split <;> exact hk _ _
 | cons r rs ih =>
  intro s acc
  cases r with
  | tmp t => unfold evR; exact ih s _
  | cell a t => unfold evR; exact loadE_kp fun v s => ih s _
theorem tup_rev (acc : List Value) (k : KK Value) (s : Sg) : (match acc with | [v] => k v s | acc => k (.tuple acc.reverse.toArray) s) = k (tupV acc.reverse) s := by
 match acc with
 | [] => rfl
 | [v] => rfl
 | a :: b :: l =>
  have : tupV (a :: b :: l).reverse = .tuple (a :: b :: l).reverse.toArray := by
   unfold tupV
   split
   ·rename_i v h
    have := congrArg List.length h
    simp at this
   ·rfl
  rw [this]
theorem evR_ok {w0 w : World} {T : Tm} {k : KK Value} (hk : KeepK k) : ∀ (rs : List ResultVar) (s : Sg) (acc : List Value), SG w0 s.M w → good (evR P .check rs T s acc k) →
  ∃ vs h, (rs.mapM (resF T)).run P w = .ok vs w ∧ ∀ A, ∃ B, A ⊆ B ∧ ∀ k', evR P .check rs T ⟨s.n, s.h, s.M, A⟩ acc k' = k' (tupV (acc.reverse ++ vs)) ⟨s.n, h, s.M, B⟩ := by
 intro rs
 induction rs with
 | nil =>
  intro s acc hS hg
  refine ⟨[], s.h, by simp, fun A => ⟨A, fun _ h => h, fun k' => ?_⟩⟩
  unfold evR
  rw [List.append_nil]
  exact tup_rev acc k' _
 | cons r rs ih =>
  intro s acc hS hg
  cases r with
  | tmp t =>
   unfold evR at hg
   obtain ⟨vs, h, hrun, hE⟩ := ih s _ hS hg
   refine ⟨tget T t :: vs, h, ?_, fun A => ?_⟩
   ·simp [List.mapM_cons, resF, hrun, tget_eq]
   ·obtain ⟨B, hB, hE⟩ := hE A
    refine ⟨B, hB, fun k' => ?_⟩
    unfold evR
    rw [hE k']
    simp
  | cell a t =>
   unfold evR at hg
   obtain ⟨ad, v, h, hx, hrun1, hE1⟩ := loadE_ok (fun v s => evR_kp hk rs s (v :: acc)) hS hg
   obtain ⟨B0, hB0, hE0⟩ := hE1 s.acc
   rw [hE0] at hg
   obtain ⟨vs, h2, hrun, hE⟩ := ih ⟨s.n, h, s.M, B0⟩ (v :: acc) hS hg
   refine ⟨v :: vs, h2, ?_, fun A => ?_⟩
   ·rw [tget_eq] at hx
    have hx' : T.toArray[a]?.getD undef = .pointer (some ad) := by simpa using hx
    simp [List.mapM_cons, resF, hrun, hx', asAddr, hrun1]
   ·obtain ⟨B1, hB1, hE1⟩ := hE1 A
    obtain ⟨B2, hB2, hE2⟩ := hE B1
    refine ⟨B2, fun _ hx => hB2 (hB1 hx), fun k' => ?_⟩
    unfold evR
    rw [hE1]
    refine (hE2 k').trans ?_
    simp
end
def RunKp (run : CallE) : Prop := ∀ f args s k, KeepK k → Kp s.acc (run f args s k)
def RunOk (run : (Nat → Fr) → CallE) : Prop :=
 ∀ (w0 w : World) (f : FuncId) (args : List Value) (γ : Nat → Fr) (n : Nat) (h : List It) (M : List Rw) (A : (Nat → Fr) → List It) (K : (Nat → Fr) → KK Value), (∀ β, KeepK (K β)) → SG w0 M w →
  (∀ β, Ag n β γ → good (run β f args ⟨n, h, M, A β⟩ (K β))) → Calls Try.prog f args.toArray w fun e w' => ∃ v, e = .returned v ∧ On w0 n γ K v w'
def SumOk (E : Env) : Prop := ∀ f args cs mk, E.sum f args = some (cs, mk) → ∀ fs : List (Nat → Int), cs = fs.map (fun x => (bs x).toList) → (∀ x ∈ fs, x ∈ E.known) → (∀ p ∈ (mk fs).2, p = true) →
 ∀ w, Calls Try.prog f args.toArray w fun e w' => e = .returned (mk fs).1 ∧ Gr w w'
theorem atK_mem : ∀ {K : List (Nat → Int)} {j : Nat} {x : Nat → Int}, atK K j = some x → x ∈ K := by
 intro K
 induction K with
 | nil => intro j x h; cases h
 | cons y K ih =>
  intro j x h
  cases j with
  | zero => cases h; exact List.mem_cons_self ..
  | succ j => exact List.mem_cons_of_mem _ (ih h)
theorem pickK_kp {K : List (Nat → Int)} {c : List Value} {s : Sg} {k : (Nat → Int) → Sg → Out} (hk : ∀ x s, Kp s.acc (k x s)) : Kp s.acc (pickK .check K c s k) := by
 unfold pickK
 simp only
 split
 ·split
  ·exact (hk _ _).tail
  ·exact .err
 ·exact .err
theorem pickK_inv {K : List (Nat → Int)} {c : List Value} {s : Sg} {k : (Nat → Int) → Sg → Out} (hk : ∀ x s, Kp s.acc (k x s)) (hg : good (pickK .check K c s k)) :
  ∃ x h, x ∈ K ∧ c = (bs x).toList ∧ ∀ A, ∃ B, A ⊆ B ∧ ∀ k', pickK .check K c ⟨s.n, s.h, s.M, A⟩ k' = k' x ⟨s.n, h, s.M, B⟩ := by
 unfold pickK at hg
 simp only at hg
 split at hg
 ·rename_i j h hh
  split at hg
  ·rename_i x hx
   have e := (hk x ⟨s.n, h, s.M, .eqv (.agg ⟨c⟩) (.agg (bs x)) :: s.acc⟩).holds hg
   simp only [It.l, It.r, Lv.v.injEq, Value.agg.injEq] at e
   refine ⟨x, h, atK_mem hx, by rw [← e], fun A => ⟨.eqv (.agg ⟨c⟩) (.agg (bs x)) :: A, fun _ hq => List.mem_cons_of_mem _ hq, fun k' => ?_⟩⟩
   unfold pickK
   simp only [hh, hx]
  ·exact absurd hg not_good
 ·exact absurd hg not_good
theorem pickKs_kp {K : List (Nat → Int)} {k : List (Nat → Int) → Sg → Out} (hk : ∀ fs s, Kp s.acc (k fs s)) : ∀ (cs : List (List Value)) (fs : List (Nat → Int)) (s : Sg), Kp s.acc (pickKs .check K cs fs s k) := by
 intro cs
 induction cs with
 | nil => exact fun fs s => hk fs s
 | cons c cs ih => exact fun fs s => pickK_kp fun x s => ih _ s
theorem pickKs_inv {K : List (Nat → Int)} {k : List (Nat → Int) → Sg → Out} (hk : ∀ fs s, Kp s.acc (k fs s)) : ∀ (cs : List (List Value)) (fs : List (Nat → Int)) (s : Sg), good (pickKs .check K cs fs s k) →
  ∃ gs h, cs = gs.map (fun x => (bs x).toList) ∧ (∀ x ∈ gs, x ∈ K) ∧ ∀ A, ∃ B, A ⊆ B ∧ ∀ k', pickKs .check K cs fs ⟨s.n, s.h, s.M, A⟩ k' = k' (fs ++ gs) ⟨s.n, h, s.M, B⟩ := by
 intro cs
 induction cs with
 | nil => exact fun fs s _ => ⟨[], s.h, rfl, fun _ h => (by cases h), fun A => ⟨A, fun _ h => h, fun k' => by rw [List.append_nil]; rfl⟩⟩
 | cons c cs ih =>
  intro fs s hg
  have hg : good (pickK .check K c s fun x s => pickKs .check K cs (fs ++ [x]) s k) := hg
  obtain ⟨x, h, hx, hc, hE⟩ := pickK_inv (fun x s => pickKs_kp hk cs _ s) hg
  obtain ⟨B0, _, hE0⟩ := hE s.acc
  rw [hE0] at hg
  obtain ⟨gs, h2, hcs, hgs, hE2⟩ := ih _ _ hg
  refine ⟨x :: gs, h2, by rw [hc, hcs]; rfl, fun y hy => ?_, fun A => ?_⟩
  ·rcases List.mem_cons.1 hy with rfl | hy
   ·exact hx
   ·exact hgs y hy
  ·obtain ⟨B1, hB1, hE1⟩ := hE A
   obtain ⟨B2, hB2, hE3⟩ := hE2 B1
   refine ⟨B2, fun _ hx => hB2 (hB1 hx), fun k' => ?_⟩
   show pickK .check K c _ (fun x s => pickKs .check K cs (fs ++ [x]) s k') = _
   rw [hE1, hE3, List.append_assoc]
   rfl
theorem pickPs_kp {k : Sg → Out} (hk : ∀ s, Kp s.acc (k s)) : ∀ (ps : List Bool) (s : Sg), Kp s.acc (pickPs .check ps s k) := by
 intro ps
 induction ps with
 | nil => exact hk
 | cons p ps ih =>
  intro s
  unfold pickPs
  refine pickCon_kp fun b s => ?_
  cases b
  ·exact .err
  ·exact ih s
theorem pickPs_inv {k : Sg → Out} (hk : ∀ s, Kp s.acc (k s)) : ∀ (ps : List Bool) (s : Sg), good (pickPs .check ps s k) →
  (∀ p ∈ ps, p = true) ∧ ∃ h, ∀ A, ∃ B, A ⊆ B ∧ ∀ k', pickPs .check ps ⟨s.n, s.h, s.M, A⟩ k' = k' ⟨s.n, h, s.M, B⟩ := by
 intro ps
 induction ps with
 | nil => exact fun s _ => ⟨fun _ h => (by cases h), s.h, fun A => ⟨A, fun _ h => h, fun _ => rfl⟩⟩
 | cons p ps ih =>
  intro s hg
  unfold pickPs at hg
  have hkp : ∀ (b : Bool) (s : Sg), Kp s.acc (match b with | true => pickPs .check ps s k | false => .error 73) := fun b s => by
   cases b
   ·exact .err
   ·exact pickPs_kp hk ps s
  obtain ⟨b, h, hb, hE⟩ := pickCon_inv hkp hg
  rw [hE s.acc] at hg
  cases b with
  | false => exact absurd hg not_good
  | true =>
   obtain ⟨hps, h2, hE2⟩ := ih _ hg
   refine ⟨fun q hq => ?_, h2, fun A => ?_⟩
   ·rcases List.mem_cons.1 hq with rfl | hq
    ·exact hb
    ·exact hps q hq
   ·obtain ⟨B, hB, hE3⟩ := hE2 (.con p true :: A)
    refine ⟨B, fun _ hx => hB (List.mem_cons_of_mem _ hx), fun k' => ?_⟩
    unfold pickPs
    rw [hE A]
    exact hE3 k'
theorem callE_kp {E : Env} {run : CallE} (hr : RunKp run) : RunKp (callE E .check run) := by
 intro f args s k hk
 unfold callE
 split
 ·exact pickKs_kp (fun fs s => pickPs_kp (fun s => hk _ s) _ s) _ _ _
 ·exact hr _ _ _ _ hk
theorem callE_ok {E : Env} {run : (Nat → Fr) → CallE} (hs : SumOk E) (hr : RunOk run) : RunOk (fun β => callE E .check (run β)) := by
 intro w0 w f args γ n h M A K hk hS hg
 cases hq : E.sum f args with
 | none =>
  refine hr w0 w f args γ n h M A K hk hS fun β hβ => ?_
  have := hg β hβ
  unfold callE at this
  simp only [hq] at this
  exact this
 | some p =>
  obtain ⟨cs, mk⟩ := p
  have hg' : ∀ β, Ag n β γ → good (pickKs .check E.known cs [] ⟨n, h, M, A β⟩ fun fs s => pickPs .check (mk fs).2 s fun s => K β (mk fs).1 s) := fun β hβ => by
   have := hg β hβ
   unfold callE at this
   simp only [hq] at this
   exact this
  obtain ⟨gs, h', hcs, hgs, hE⟩ := pickKs_inv (fun fs s => pickPs_kp (fun s => hk γ _ s) _ s) cs [] _ (hg' γ .refl)
  simp only [List.nil_append] at hE
  have hg2 : ∀ β, Ag n β γ → good (pickPs .check (mk gs).2 ⟨n, h', M, Classical.choose (hE (A β))⟩ fun s => K β (mk gs).1 s) := fun β hβ => by
   have h1 := hg' β hβ
   have h2 := (Classical.choose_spec (hE (A β))).2 (fun fs s => pickPs .check (mk fs).2 s fun s => K β (mk fs).1 s)
   rw [h2] at h1
   exact h1
  obtain ⟨hps, h3, hE2⟩ := pickPs_inv (fun s => hk γ _ s) _ _ (hg2 γ .refl)
  refine (hs f args cs mk hq gs hcs hgs hps w).mono fun e w' ⟨he, hw⟩ => ⟨(mk gs).1, he, γ, n, h3, M, fun β => Classical.choose (hE2 (Classical.choose (hE (A β)))), hS.grow hw, Nat.le_refl _, .refl, fun β hβ => ?_⟩
  have h1 := hg2 β hβ
  have h2 := (Classical.choose_spec (hE2 (Classical.choose (hE (A β))))).2 (fun s => K β (mk gs).1 s)
  rw [h2] at h1
  exact h1
noncomputable def putL (T : Tm) (d : Option Tmp) (v : Value) : Tm :=
 match d with
 | some d => Classical.choose (tput_ex T d v)
 | none => T
theorem putT_eq (T : Tm) (d : Option Tmp) (v : Value) (k : Tm → Out) : putT T d v k = k (putL T d v) := by
 cases d with
 | none => rfl
 | some d => exact (Classical.choose_spec (tput_ex T d v)).1 k
theorem put_T (T : Tm) (d : Option Tmp) (v : Value) (ds : List Deferred) : (⟨T.toArray, ds⟩ : Act).put d v = ⟨(putL T d v).toArray, ds⟩ := by
 cases d with
 | none => rfl
 | some d => simp only [Act.put, putL, (Classical.choose_spec (tput_ex T d v)).2]
theorem concE_kp {E : Env} {o : Oper} {v : Value} {s : Sg} {k : KK Value} (hk : KeepK k) : Kp s.acc (concE E .check o v s k) := by
 unfold concE
 split
 ·exact hk _ _
 ·split
  ·simp only
   split
   ·exact (hk _ _).tail
   ·exact .err
  ·exact .err
theorem concE_inv {E : Env} {o : Oper} {v : Value} {s : Sg} {k : KK Value} (hk : KeepK k) (hg : good (concE E .check o v s k)) :
  ∃ h, ∀ A, ∃ B, A ⊆ B ∧ ∀ k', concE E .check o v ⟨s.n, s.h, s.M, A⟩ k' = k' v ⟨s.n, h, s.M, B⟩ := by
 unfold concE at hg
 split at hg
 ·rename_i hc
  exact ⟨s.h, fun A => ⟨A, fun _ h => h, fun k' => by unfold concE; simp only [hc]⟩⟩
 ·rename_i hc
  split at hg
  ·rename_i kd z
   simp only at hg
   split at hg
   ·rename_i k0 z0 l0 h hh
    have e := (hk (.int kd z0) ⟨s.n, h, s.M, .con (z == z0) true :: s.acc⟩).holds hg
    simp only [It.l, It.r, Lv.v.injEq, Value.bool.injEq, beq_iff_eq] at e
    refine ⟨h, fun A => ⟨.con (z == z0) true :: A, fun _ h => List.mem_cons_of_mem _ h, fun k' => ?_⟩⟩
    unfold concE
    simp only [hc, hh, e]
   ·exact absurd hg not_good
  ·exact absurd hg not_good
theorem encR_inj {r r' : Rw} (h : encR r = encR r') : r = r' := by
 obtain ⟨b, c, t, o⟩ := r
 obtain ⟨b', c', t', o'⟩ := r'
 simp only [encR, Value.tuple.injEq, Array.mk.injEq, List.cons.injEq, Value.int.injEq, true_and, Value.bool.injEq, Value.agg.injEq, and_true] at h
 obtain ⟨h1, h2, h3, h4⟩ := h
 have h1 := Int.ofNat.inj h1
 have h2 := Int.ofNat.inj h2
 subst h1 h2 h3 h4
 rfl
theorem encM_inj {M M' : List Rw} (h : encM M = encM M') : M = M' := by
 simp only [encM, Value.tuple.injEq, Array.mk.injEq] at h
 induction M generalizing M' with
 | nil => cases M' with
  | nil => rfl
  | cons r M' => simp at h
 | cons r M ih => cases M' with
  | nil => simp at h
  | cons r' M' =>
   simp only [List.map_cons, List.cons.injEq] at h
   rw [encR_inj h.1, ih h.2]
theorem needE_sub (T : Tm) : ∀ (l : List (Nat × Value)) (A : List It), A ⊆ needE T l A := by
 intro l
 induction l with
 | nil => exact fun A _ h => h
 | cons p l ih =>
  obtain ⟨i, v⟩ := p
  exact fun A x hx => ih _ (List.mem_cons_of_mem _ hx)
theorem needE_mem (T : Tm) : ∀ (l : List (Nat × Value)) (A : List It), ∀ p ∈ l, It.eqv (tget T p.1) p.2 ∈ needE T l A := by
 intro l
 induction l with
 | nil => intro A p hp; cases hp
 | cons q l ih =>
  obtain ⟨i, v⟩ := q
  intro A p hp
  rcases List.mem_cons.1 hp with rfl | hp
  ·exact needE_sub T l _ (List.mem_cons_self ..)
  ·exact ih _ p hp
theorem Kp.sub {A A' : List It} {o : Out} (h : Kp A' o) (hs : A ⊆ A') : Kp A o := fun l hl hg x hx => h l hl hg x (hs hx)
theorem opI_sub (H : OHole) (T : Tm) (M : List Rw) (A : List It) : A ⊆ opI .check H T M A := fun _ hx => needE_sub T _ _ (List.mem_cons_of_mem _ hx)
noncomputable def kNx (E : Env) (β : Nat → Fr) (run : CallE) (o : Oper) (T : Tm) (k : KK Tm) (nx : Next) (s : Sg) : Out :=
 match nx with
 | .value v => concE E .check o v s fun v s => k (putL T o.dst v) s
 | .skip => k (putL T o.dst undef) s
 | .enter f args => match E.csum f args.toList s.M with
  | some H => pickPs .check H.pre ⟨s.n, s.h, s.M, cI .check H s.M s.acc⟩ fun s => k (putL T o.dst (H.v (frL β s.n H.n))) ⟨s.n + H.n, s.h, H.lay (frL β s.n H.n) ++ s.M, s.acc⟩
  | none => callE E .check run f args.toList s fun v s => k (putL T o.dst v) s
 | _ => .error 50
noncomputable def kOp (E : Env) (β : Nat → Fr) (run : CallE) (o : Oper) (T : Tm) (k : KK Tm) (g : Bool) (s : Sg) : Out :=
 match g with
 | false => k (putL T o.dst undef) s
 | true => match E.oph o T s.M with
  | some H => match Nat.beq T.n H.n with
   | true => pickPs .check H.pre ⟨s.n, s.h, s.M, opI .check H T s.M s.acc⟩ fun s => k (putL T o.dst (H.v.getD undef)) ⟨s.n, s.h, H.rows1, s.acc⟩
   | false => .error 102
  | none => match fastV E.P (evalT T) o.op with
  | some v => k (putL T o.dst v) s
  | none => match appOf o with
  | some (x, y, t) => appE E.P .check β (evalT T x) (evalT T y) t s fun v s => k (putL T o.dst v) s
  | none => match o.op with
   | .load t x => loadE E.P .check (evalT T x) t s fun v s => k (putL T o.dst v) s
   | .store t x y => storeE E.P .check β (evalT T x) (evalT T y) t s fun s => k (putL T o.dst undef) s
   | .pick c a b => pickV .check (evalT T c) (evalT T a) (evalT T b) s fun v s => k (putL T o.dst v) s
   | _ => evS E.P .check β (execOp (evalT T) o) s (kNx E β run o T k)
theorem evO_cons (E : Env) (β : Nat → Fr) (run : CallE) (all : List Oper) (o : Oper) (l : List Oper) (T : Tm) (s : Sg) (K : KK Tm) :
  evO E .check β run all (o :: l) T s K = askG .check all T o s (kOp E β run o T fun T s => evO E .check β run all l T s K) := by
 have e : ∀ g s, (match g with
   | false => putT T o.dst undef fun T => evO E .check β run all l T s K
   | true => match E.oph o T s.M with
   | some H => match Nat.beq T.n H.n with
    | true => pickPs .check H.pre ⟨s.n, s.h, s.M, opI .check H T s.M s.acc⟩ fun s => putT T o.dst (H.v.getD undef) fun T => evO E .check β run all l T ⟨s.n, s.h, H.rows1, s.acc⟩ K
    | false => .error 102
   | none => match fastV E.P (evalT T) o.op with
    | some v => putT T o.dst v fun T => evO E .check β run all l T s K
    | none => match appOf o with
    | some (x, y, t) => appE E.P .check β (evalT T x) (evalT T y) t s fun v s => putT T o.dst v fun T => evO E .check β run all l T s K
    | none => match o.op with
     | .load t x => loadE E.P .check (evalT T x) t s fun v s => putT T o.dst v fun T => evO E .check β run all l T s K
     | .store t x y => storeE E.P .check β (evalT T x) (evalT T y) t s fun s => putT T o.dst undef fun T => evO E .check β run all l T s K
     | .pick c a b => pickV .check (evalT T c) (evalT T a) (evalT T b) s fun v s => putT T o.dst v fun T => evO E .check β run all l T s K
     | _ => evS E.P .check β (execOp (evalT T) o) s fun nx s => match nx with
      | .value v => concE E .check o v s fun v s => putT T o.dst v fun T => evO E .check β run all l T s K
      | .skip => putT T o.dst undef fun T => evO E .check β run all l T s K
      | .enter f args => match E.csum f args.toList s.M with
       | some H => pickPs .check H.pre ⟨s.n, s.h, s.M, cI .check H s.M s.acc⟩ fun s => putT T o.dst (H.v (frL β s.n H.n)) fun T => evO E .check β run all l T ⟨s.n + H.n, s.h, H.lay (frL β s.n H.n) ++ s.M, s.acc⟩ K
       | none => callE E .check run f args.toList s fun v s => putT T o.dst v fun T => evO E .check β run all l T s K
      | _ => .error 50) = kOp E β run o T (fun T s => evO E .check β run all l T s K) g s := by
  intro g s
  have e2 : (fun (nx : Next) (s : Sg) => (match nx with
      | .value v => concE E .check o v s fun v s => putT T o.dst v fun T => evO E .check β run all l T s K
      | .skip => putT T o.dst undef fun T => evO E .check β run all l T s K
      | .enter f args => match E.csum f args.toList s.M with
       | some H => pickPs .check H.pre ⟨s.n, s.h, s.M, cI .check H s.M s.acc⟩ fun s => putT T o.dst (H.v (frL β s.n H.n)) fun T => evO E .check β run all l T ⟨s.n + H.n, s.h, H.lay (frL β s.n H.n) ++ s.M, s.acc⟩ K
       | none => callE E .check run f args.toList s fun v s => putT T o.dst v fun T => evO E .check β run all l T s K
      | _ => .error 50 : Out)) = kNx E β run o T fun T s => evO E .check β run all l T s K := by
   funext nx s
   simp only [putT_eq]
   unfold kNx
   rfl
  simp only [putT_eq] at e2 ⊢
  rw [e2]
  unfold kOp
  rfl
 have : (fun g s => _) = kOp E β run o T (fun T s => evO E .check β run all l T s K) := funext fun g => funext fun s => e g s
 exact congrArg (askG .check all T o s) this
theorem kNx_kp {E : Env} {β : Nat → Fr} {run : CallE} {o : Oper} {T : Tm} {k : KK Tm} (hr : RunKp run) (hk : KeepK k) : KeepK (kNx E β run o T k) := by
 intro nx s
 unfold kNx
 split
 ·exact concE_kp fun v s => hk _ _
 ·exact hk _ _
 ·split
  ·rename_i H _
   exact Kp.tail (x := .eqv (encM s.M) (encM H.rows)) (pickPs_kp (k := fun s => k (putL T o.dst (H.v (frL β s.n H.n))) ⟨s.n + H.n, s.h, H.lay (frL β s.n H.n) ++ s.M, s.acc⟩) (fun s => hk _ ⟨s.n + H.n, s.h, _, s.acc⟩) H.pre ⟨s.n, s.h, s.M, cI .check H s.M s.acc⟩)
  ·exact callE_kp hr _ _ _ _ fun v s => hk _ _
 ·exact .err
theorem kOp_kp {E : Env} {β : Nat → Fr} {run : CallE} {o : Oper} {T : Tm} {k : KK Tm} (hr : RunKp run) (hk : KeepK k) (g : Bool) (s : Sg) : Kp s.acc (kOp E β run o T k g s) := by
 unfold kOp
 split
 ·exact hk _ _
 ·split
  ·rename_i H _
   split
   ·exact Kp.sub (pickPs_kp (k := fun s => k (putL T o.dst (H.v.getD undef)) ⟨s.n, s.h, H.rows1, s.acc⟩) (fun s => hk _ ⟨s.n, s.h, H.rows1, s.acc⟩) H.pre ⟨s.n, s.h, s.M, opI .check H T s.M s.acc⟩) (opI_sub H T s.M s.acc)
   ·exact .err
  split
  ·exact hk _ _
  ·split
   ·exact appE_kp fun v s => hk _ _
   split
   ·exact loadE_kp fun v s => hk _ _
   ·exact storeE_kp fun s => hk _ _
   ·exact pickV_kp fun v s => hk _ _
   ·exact evS_kp _ _ _ (kNx_kp hr hk)
theorem evO_kp {E : Env} {β : Nat → Fr} {run : CallE} {all : List Oper} (hr : RunKp run) {K : KK Tm} (hk : KeepK K) : ∀ (l : List Oper) (T : Tm) (s : Sg), Kp s.acc (evO E .check β run all l T s K) := by
 intro l
 induction l with
 | nil => exact fun T s => hk T s
 | cons o l ih =>
  intro T s
  rw [evO_cons]
  exact askG_kp fun g s => kOp_kp hr (fun T s => ih T s) g s
def OphOk (E : Env) : Prop := (∀ f args M H, E.csum f args M = some H → M = H.rows → (∀ b ∈ H.pre, b = true) → ∀ w0 w : World, SG w0 M w → Calls Try.prog f args.toArray w fun e w' => ∃ fr : List Fr, fr.length = H.n ∧ e = .returned (H.v fr) ∧ SG w0 (H.lay fr ++ M) w') ∧ ∀ o T M H, E.oph o T M = some H → T.n = H.n → (∀ p ∈ H.need, tget T p.1 = p.2) → M = H.rows → (∀ b ∈ H.pre, b = true) → ∀ w0 w : World, SG w0 M w →
 ∃ w', (execOp (evalT T) o).run Try.prog w = .ok (match H.v with | some v => .value v | none => .skip) w' ∧ SG w0 H.rows1 w'
theorem no_oph {E : Env} (h : E.oph = fun _ _ _ => none) (h2 : E.csum = fun _ _ _ => none) : OphOk E := ⟨fun _ _ _ _ hq => (by rw [h2] at hq; cases hq), fun _ _ _ _ hq => (by rw [h] at hq; cases hq)⟩
theorem oph_of {E : Env} (h2 : E.csum = fun _ _ _ => none) (h : ∀ o T M H, E.oph o T M = some H → T.n = H.n → (∀ p ∈ H.need, tget T p.1 = p.2) → M = H.rows → (∀ b ∈ H.pre, b = true) → ∀ w0 w : World, SG w0 M w →
 ∃ w', (execOp (evalT T) o).run Try.prog w = .ok (match H.v with | some v => .value v | none => .skip) w' ∧ SG w0 H.rows1 w') : OphOk E := ⟨fun _ _ _ _ hq => (by rw [h2] at hq; cases hq), h⟩
theorem csum_of {E : Env} (h : E.oph = fun _ _ _ => none) (h2 : ∀ f args M H, E.csum f args M = some H → M = H.rows → (∀ b ∈ H.pre, b = true) → ∀ w0 w : World, SG w0 M w → Calls Try.prog f args.toArray w fun e w' => ∃ fr : List Fr, fr.length = H.n ∧ e = .returned (H.v fr) ∧ SG w0 (H.lay fr ++ M) w') : OphOk E := ⟨h2, fun _ _ _ _ hq => (by rw [h] at hq; cases hq)⟩
theorem evO_ok {E : Env} (hP : E.P = Try.prog) (hs : SumOk E) (ho : OphOk E) {run : (Nat → Fr) → CallE} (hkp : ∀ β, RunKp (run β)) (hr : RunOk run) {w0 : World} {all : List Oper} {Q : Exit → Act → World → Prop} {K : (Nat → Fr) → KK Tm} (hk : ∀ β, KeepK (K β)) :
  ∀ (l : List Oper) (γ : Nat → Fr) (n : Nat) (h : List It) (M : List Rw) (A : (Nat → Fr) → List It) (T : Tm) (w : World), SG w0 M w →
   (∀ β, Ag n β γ → good (evO E .check β (run β) all l T ⟨n, h, M, A β⟩ (K β))) → (∀ T' w', On w0 n γ K T' w' → Q .normal ⟨T'.toArray, []⟩ w') → wpList Try.prog all.toArray Q l ⟨T.toArray, []⟩ w := by
 intro l
 induction l with
 | nil => exact fun γ n h M A T w hS hg hQ => hQ T w ⟨γ, n, h, M, A, hS, Nat.le_refl _, .refl, hg⟩
 | cons o l ih =>
  intro γ n h M A T w hS hg hQ
  have hk2 : ∀ β, KeepK fun T s => evO E .check β (run β) all l T s (K β) := fun β T s => evO_kp (hkp β) (hk β) l T s
  have h0 := hg γ .refl
  rw [evO_cons] at h0
  obtain ⟨g, h1, hw, hE⟩ := askG_inv (fun g s => kOp_kp (hkp γ) (hk2 γ) g s) h0
  have hg1 : ∀ β, Ag n β γ → good (kOp E β (run β) o T (fun T s => evO E .check β (run β) all l T s (K β)) g ⟨n, h1, M, Classical.choose (hE (A β))⟩) := fun β hβ => by
   have := hg β hβ
   rw [evO_cons] at this
   have h2 := (Classical.choose_spec (hE (A β))).2 (kOp E β (run β) o T fun T s => evO E .check β (run β) all l T s (K β))
   exact h2 ▸ this
  generalize hB : (fun β => Classical.choose (hE (A β))) = B at hg1
  have hg1 : ∀ β, Ag n β γ → good (kOp E β (run β) o T (fun T s => evO E .check β (run β) all l T s (K β)) g ⟨n, h1, M, B β⟩) := fun β hβ => by
   have := hg1 β hβ
   rw [← hB]; exact this
  clear h0
  -- how it goes on
  have hnext : ∀ (v : Value) (w' : World), On w0 n γ (fun β (_ : Unit) s => evO E .check β (run β) all l (putL T o.dst v) s (K β)) () w' → wpList Try.prog all.toArray Q l ((⟨T.toArray, []⟩ : Act).put o.dst v) w' := fun v w' hon => by
   obtain ⟨γ', n', h', M', A', hS', hle, hag, hgd⟩ := hon
   rw [put_T]
   exact ih γ' n' h' M' A' _ w' hS' hgd fun T' w'' hq => hQ T' w'' (hq.le hle hag)
  unfold wpList
  rw [hw]
  cases g with
  | false =>
   simp only [Bool.false_eq_true, if_false]
   exact hnext undef w ⟨γ, n, h1, M, B, hS, Nat.le_refl _, .refl, fun β hβ => hg1 β hβ⟩
  | true =>
   simp only [if_true]
   refine .inl ?_
   unfold Oper.wp
   have he := eval_T T []
   rw [he]
   cases hoph : E.oph o T M with
   | some H =>
    have hg2 : ∀ β, Ag n β γ → Nat.beq T.n H.n = true ∧ good (pickPs .check H.pre ⟨n, h1, M, opI .check H T M (B β)⟩ fun s => evO E .check β (run β) all l (putL T o.dst (H.v.getD undef)) ⟨s.n, s.h, H.rows1, s.acc⟩ (K β)) := fun β hβ => by
     have := hg1 β hβ
     unfold kOp at this
     simp only [hoph] at this
     split at this
     ·rename_i hb; exact ⟨hb, this⟩
     ·exact absurd this not_good
    have hkc : ∀ β, ∀ s : Sg, Kp s.acc (evO E .check β (run β) all l (putL T o.dst (H.v.getD undef)) ⟨s.n, s.h, H.rows1, s.acc⟩ (K β)) := fun β s => hk2 β _ ⟨s.n, s.h, _, s.acc⟩
    obtain ⟨hb, hg3⟩ := hg2 γ .refl
    have hall : ∀ y ∈ opI .check H T M (B γ), y.l = y.r := by
     obtain ⟨l', hl', hgl'⟩ := hg3
     exact pickPs_kp (hkc γ) _ _ l' hl' hgl'
    have hneed : ∀ p ∈ H.need, tget T p.1 = p.2 := fun p hp => by
     have := hall _ (needE_mem T _ _ p hp)
     simpa [It.l, It.r] using this
    have hrows : M = H.rows := by
     have := hall _ (needE_sub _ _ _ (List.mem_cons_self ..))
     simp only [It.l, It.r, Lv.v.injEq] at this
     exact encM_inj this
    obtain ⟨hpre, h2, hE⟩ := pickPs_inv (hkc γ) H.pre _ hg3
    obtain ⟨w', hrun, hS'⟩ := ho.2 o T M H hoph (Nat.eq_of_beq_eq_true hb) hneed hrows hpre w0 w hS
    rw [hrun]
    have hon : On w0 n γ (fun β (_ : Unit) s => evO E .check β (run β) all l (putL T o.dst (H.v.getD undef)) s (K β)) () w' := by
     refine ⟨γ, n, h2, H.rows1, fun β => Classical.choose (hE (opI .check H T M (B β))), hS', Nat.le_refl _, .refl, fun β hβ => ?_⟩
     have h4 := (hg2 β hβ).2
     have h5 : pickPs .check H.pre ⟨n, h1, M, opI .check H T M (B β)⟩ (fun s => evO E .check β (run β) all l (putL T o.dst (H.v.getD undef)) ⟨s.n, s.h, H.rows1, s.acc⟩ (K β)) = _ := (Classical.choose_spec (hE (opI .check H T M (B β)))).2 _
     rw [h5] at h4
     exact h4
    cases hv : H.v with
    | some v => rw [hv] at hon; exact hnext v w' hon
    | none => rw [hv] at hon; exact hnext undef w' hon
   | none =>
   cases hf : fastV E.P (evalT T) o.op with
   | some v =>
    rw [fastV_ok (hP ▸ hf)]
    refine hnext v w ⟨γ, n, h1, M, B, hS, Nat.le_refl _, .refl, fun β hβ => ?_⟩
    have := hg1 β hβ
    unfold kOp at this
    simp only [hoph, hf] at this
    exact this
   | none =>
    cases hap : appOf o with
    | some p =>
     obtain ⟨x, y, t⟩ := p
     have hg2 : ∀ β, Ag n β γ → good (appE E.P .check β (evalT T x) (evalT T y) t ⟨n, h1, M, B β⟩ fun v s => evO E .check β (run β) all l (putL T o.dst v) s (K β)) := fun β hβ => by
      have := hg1 β hβ
      unfold kOp at this
      simp only [hoph, hf, hap] at this
      exact this
     obtain ⟨v, w', hrun, hon⟩ := appE_ok (ty := o.type) (fun β v s => hk2 β _ s) hS hg2
     rw [hP] at hrun
     rw [exec_app hap hrun]
     exact hnext v w' hon
    | none =>
     by_cases hl : ∃ t x, o.op = .load t x
     ·obtain ⟨t, x, ho⟩ := hl
      have hg2 : ∀ β, Ag n β γ → good (loadE E.P .check (evalT T x) t ⟨n, h1, M, B β⟩ fun v s => evO E .check β (run β) all l (putL T o.dst v) s (K β)) := fun β hβ => by
       have := hg1 β hβ
       unfold kOp at this
       simp only [hoph, hap, ho] at this
       exact this
      obtain ⟨a, v, h2, hx, hrun, hE⟩ := loadE_ok (fun v s => hk2 γ _ s) hS (hg2 γ .refl)
      have hr2 : (execOp (evalT T) o).run Try.prog w = .ok (.value v) w := by
       unfold execOp
       rw [hP] at hrun
       simp [ho, Instr.loadAt, Instr.sureAddr, hx, hrun]
      rw [hr2]
      refine hnext v w ⟨γ, n, h2, M, fun β => Classical.choose (hE (B β)), hS, Nat.le_refl _, .refl, fun β hβ => ?_⟩
      have h3 := (Classical.choose_spec (hE (B β))).2 (fun v s => evO E .check β (run β) all l (putL T o.dst v) s (K β))
      have h4 := hg2 β hβ
      rw [h3] at h4
      exact h4
     ·by_cases hst : ∃ t x y, o.op = .store t x y
      ·obtain ⟨t, x, y, ho⟩ := hst
       have hg2 : ∀ β, Ag n β γ → good (storeE E.P .check β (evalT T x) (evalT T y) t ⟨n, h1, M, B β⟩ fun s => evO E .check β (run β) all l (putL T o.dst undef) s (K β)) := fun β hβ => by
        have := hg1 β hβ
        unfold kOp at this
        simp only [hoph, hap, ho] at this
        exact this
       obtain ⟨a, w', hx, hrun, hon⟩ := storeE_ok (fun β s => hk2 β _ s) hS hg2
       have hr2 : (execOp (evalT T) o).run Try.prog w = .ok .skip w' := by
        unfold execOp
        rw [hP] at hrun
        simp [ho, Instr.storeAt, Instr.sureAddr, hx, hrun]
       rw [hr2]
       exact hnext undef w' hon
      ·by_cases hpk : ∃ c a b, o.op = .pick c a b
       ·obtain ⟨c, a, b, ho⟩ := hpk
        have hg2 : ∀ β, Ag n β γ → good (pickV .check (evalT T c) (evalT T a) (evalT T b) ⟨n, h1, M, B β⟩ fun v s => evO E .check β (run β) all l (putL T o.dst v) s (K β)) := fun β hβ => by
         have := hg1 β hβ
         unfold kOp at this
         simp only [hoph, hap, ho] at this
         exact this
        obtain ⟨q, h2, hx, hE⟩ := pickV_st (fun v s => hk2 γ _ s) (hg2 γ .refl)
        rw [run_pick ho hx]
        refine hnext _ w ⟨γ, n, h2, M, fun β => Classical.choose (hE (B β)), hS, Nat.le_refl _, .refl, fun β hβ => ?_⟩
        have h3 := (Classical.choose_spec (hE (B β))).2 (fun v s => evO E .check β (run β) all l (putL T o.dst v) s (K β))
        have h4 := hg2 β hβ
        rw [h3] at h4
        exact h4
       have hg2 : ∀ β, Ag n β γ → good (evS E.P .check β (execOp (evalT T) o) ⟨n, h1, M, B β⟩ (kNx E β (run β) o T fun T s => evO E .check β (run β) all l T s (K β))) := fun β hβ => by
        have := hg1 β hβ
        unfold kOp at this
        simp only [hoph, hf, hap] at this
        split at this
        ·rename_i ho; exact absurd ⟨_, _, ho⟩ hl
        ·rename_i ho; exact absurd ⟨_, _, _, ho⟩ hst
        ·rename_i ho; exact absurd ⟨_, _, _, ho⟩ hpk
        ·exact this
       obtain ⟨nx, w', hrun, hon⟩ := evS_ok _ γ n h1 M B w (fun β => kNx E β (run β) o T fun T s => evO E .check β (run β) all l T s (K β)) (fun β => kNx_kp (hkp β) (hk2 β)) hS hg2
       rw [hP] at hrun
       rw [hrun]
       obtain ⟨γ', n', h', M', A', hS', hle, hag, hgd⟩ := hon
       cases nx with
       | value v =>
        have hk3 : ∀ β, KeepK fun (v : Value) (s : Sg) => evO E .check β (run β) all l (putL T o.dst v) s (K β) := fun β v s => hk2 β _ s
        have hgd' : ∀ β, Ag n' β γ' → good (concE E .check o v ⟨n', h', M', A' β⟩ fun v s => evO E .check β (run β) all l (putL T o.dst v) s (K β)) := hgd
        obtain ⟨h3, hE3⟩ := concE_inv (hk3 γ') (hgd' γ' .refl)
        refine hnext v w' ⟨γ', n', h3, M', fun β => Classical.choose (hE3 (A' β)), hS', hle, hag, fun β hβ => ?_⟩
        have h4 := (Classical.choose_spec (hE3 (A' β))).2 (fun v s => evO E .check β (run β) all l (putL T o.dst v) s (K β))
        have h5 := hgd' β hβ
        rw [h4] at h5
        exact h5
       | skip => exact hnext undef w' ⟨γ', n', h', M', A', hS', hle, hag, hgd⟩
       | enter f args =>
         cases hcs : E.csum f args.toList M' with
         | some H =>
          have hgd' : ∀ β, Ag n' β γ' → good (pickPs .check H.pre ⟨n', h', M', cI .check H M' (A' β)⟩ fun s => evO E .check β (run β) all l (putL T o.dst (H.v (frL β s.n H.n))) ⟨s.n + H.n, s.h, H.lay (frL β s.n H.n) ++ s.M, s.acc⟩ (K β)) := fun β hβ => by
           have h4 := hgd β hβ
           unfold kNx at h4
           simp only [hcs] at h4
           exact h4
          have hkc : ∀ β, ∀ s : Sg, Kp s.acc (evO E .check β (run β) all l (putL T o.dst (H.v (frL β s.n H.n))) ⟨s.n + H.n, s.h, H.lay (frL β s.n H.n) ++ s.M, s.acc⟩ (K β)) := fun β s => hk2 β _ ⟨s.n + H.n, s.h, _, s.acc⟩
          have hrows : M' = H.rows := by
           obtain ⟨l', hl', hgl'⟩ := hgd' γ' .refl
           have := pickPs_kp (hkc γ') _ _ l' hl' hgl' _ (List.mem_cons_self ..)
           simp only [It.l, It.r, Lv.v.injEq] at this
           exact encM_inj this
          obtain ⟨hpre, h2, hE⟩ := pickPs_inv (hkc γ') H.pre _ (hgd' γ' .refl)
          have hc := ho.1 f args.toList M' H hcs hrows hpre w0 w' hS'
          have hc : Calls Try.prog f args w' fun e w'' => ∃ fr : List Fr, fr.length = H.n ∧ e = .returned (H.v fr) ∧ SG w0 (H.lay fr ++ M') w'' := by simpa using hc
          refine hc.mono fun e w'' ⟨fr, hfl, he, hS2⟩ => ?_
          subst he
          have hag2 : Ag n' (fun i => if n' ≤ i then fr.getD (i - n') (noB 0) else γ' i) γ' := fun i hi => if_neg (by omega)
          have hfr : ∀ β : Nat → Fr, Ag (n' + H.n) β (fun i => if n' ≤ i then fr.getD (i - n') (noB 0) else γ' i) → frL β n' H.n = fr := fun β hβ => by
           refine List.ext_getElem (by simp [frL, hfl]) fun i h1 h2 => ?_
           simp only [frL, List.getElem_map, List.getElem_range]
           rw [hβ (n' + i) (by omega)]
           show (if n' ≤ n' + i then fr.getD (n' + i - n') (noB 0) else γ' (n' + i)) = fr[i]
           rw [if_pos (by omega), Nat.add_sub_cancel_left]
           simp [h2]
          refine hnext (H.v fr) w'' ⟨_, n' + H.n, h2, H.lay fr ++ M', fun β => Classical.choose (hE (cI .check H M' (A' β))), hS2, by omega, (hag2.le hle).trans hag, fun β hβ => ?_⟩
          have h4 := hgd' β ((hβ.le (by omega)).trans hag2)
          have h5 : pickPs .check H.pre ⟨n', h', M', cI .check H M' (A' β)⟩ (fun s => evO E .check β (run β) all l (putL T o.dst (H.v (frL β s.n H.n))) ⟨s.n + H.n, s.h, H.lay (frL β s.n H.n) ++ s.M, s.acc⟩ (K β)) = _ := (Classical.choose_spec (hE (cI .check H M' (A' β)))).2 _
          rw [h5] at h4
          simp only [hfr β hβ] at h4
          exact h4
         | none =>
          replace hgd : ∀ β, Ag n' β γ' → good (callE E .check (run β) f args.toList ⟨n', h', M', A' β⟩ fun v s => evO E .check β (run β) all l (putL T o.dst v) s (K β)) := fun β hβ => by
           have h4 := hgd β hβ
           unfold kNx at h4
           simp only [hcs] at h4
           exact h4
          have hc := callE_ok hs hr w0 w' f args.toList γ' n' h' M' A' (fun β v s => evO E .check β (run β) all l (putL T o.dst v) s (K β)) (fun β v s => hk2 β _ s) hS' hgd
          have hc : Calls Try.prog f args w' fun e w'' => ∃ v, e = .returned v ∧ On w0 n' γ' (fun β v s => evO E .check β (run β) all l (putL T o.dst v) s (K β)) v w'' := by simpa using hc
          refine hc.mono fun e w'' ⟨v, he, hon⟩ => ?_
          subst he
          obtain ⟨γ2, n2, h2, M2, A2, hS2, hle2, hag2, hgd2⟩ := hon
          exact hnext v w'' ⟨γ2, n2, h2, M2, A2, hS2, Nat.le_trans hle hle2, (hag2.le hle).trans hag, hgd2⟩
       | _ => exact absurd (hgd γ' .refl) not_good
end Ev
end Go.Proofs.Ytjoalcaooccbiaa
/- EvD -/
namespace Go.Proofs.Ytjoalcaooccbiaa
open Go.RowKit VecM
namespace Ev
theorem newV_ok {P : Program} {α : Type} (x : Sem α) {c : Array Value} {t : TypeId} {k : Nat → Sem α} (h : newV P x = some (c, t, k)) (w : World) : x.run P w = (k w.heap.size).run P (w.alloc (.cells c t)) := by
 induction x with
 | new o q ih =>
  have e : newV P (.new o q) = (match (generalizing := false) o with | .cells c t (0, 0) => some (c, t, q) | _ => none) := rfl
  rw [e] at h
  split at h
  ·cases h; rfl
  ·cases h
 | program q ih => exact ih P h
 | mark m q ih => exact ih h
 | _ => cases h
def gR : Res → Prop
 | .bad _ => False
 | .val _ acc => ∀ x ∈ acc, x.l = x.r
 | .lay _ _ _ acc => ∀ x ∈ acc, x.l = x.r
 | .cal _ _ _ acc => ∀ x ∈ acc, x.l = x.r
noncomputable abbrev kD : KK Bool := fun g s => .ok (.sub (.bool g) s.h :: s.acc)
theorem askD (all : List Oper) (T : Tm) (o : Oper) (n : Nat) (h : List It) (M : List Rw) :
  (∃ e, ∀ A, askG .check all T o ⟨n, h, M, A⟩ kD = .error e) ∨
  (∃ g l X, (∀ A, askG .check all T o ⟨n, h, M, A⟩ kD = .ok (.sub (.bool g) l :: (X ++ A))) ∧ ((∀ x ∈ X, x.l = x.r) → Region.wanted o (yielded all.toArray T.toArray) = g)) := by
 cases hgd : o.guard with
 | none => exact .inr ⟨true, h, [], fun A => by unfold askG; simp only [hgd]; rfl, fun _ => by simp [Region.wanted, hgd]⟩
 | some p =>
  obtain ⟨j, want⟩ := p
  cases hy : yieldT all T j with
  | none =>
   refine .inr ⟨false, h, [], fun A => by unfold askG; simp only [hgd, hy]; rfl, fun _ => ?_⟩
   unfold Region.wanted
   simp only [hgd, yield_T, hy]
   rfl
  | some b =>
   have e : ∀ A, askG .check all T o ⟨n, h, M, A⟩ kD = pickCon .check b ⟨n, h, M, A⟩ fun b s => kD (b == want) s := fun A => by unfold askG; simp only [hgd, hy]
   by_cases hh : ∃ c b' h', h = .con c b' :: h'
   ·obtain ⟨c, b', h', rfl⟩ := hh
    refine .inr ⟨b' == want, h', [.con b b'], fun A => by rw [e]; rfl, fun hX => ?_⟩
    have := hX (.con b b') (List.mem_singleton.2 rfl)
    simp only [It.l, It.r, Lv.v.injEq, Value.bool.injEq] at this
    unfold Region.wanted
    simp only [hgd, yield_T, hy]
    rw [← this]
    cases b <;> cases want <;> rfl
   ·refine .inl ⟨6, fun A => ?_⟩
    rw [e]
    unfold pickCon
    simp only
    split
    ·exact absurd ⟨_, _, _, rfl⟩ hh
    ·rfl
theorem all_inits {P : Program} {f : FuncId} (h : P.inits.toList.all (fun g => !(Nat.beq g f)) = true) : P.inits.idxOf? f = none := by
 rw [Array.idxOf?_eq_none_iff]
 intro hm
 have := List.all_eq_true.1 h f (Array.mem_toList_iff.2 hm)
 simp at this
theorem valE_ok {E : Env} (hP : E.P = Try.prog) (hs : SumOk E) {run : (Nat → Fr) → CallE} (hkp : ∀ β, RunKp (run β)) (hr : RunOk run) {o : Oper} {T : Tm} {v0 : Value} {γ : Nat → Fr} {n : Nat} {l : List It} {M : List Rw} {A : (Nat → Fr) → List It}
  (hg : ∀ β, Ag n β γ → gR (valE E .check (run β) o T v0 ⟨n, l, M, A β⟩)) :
  ∃ v, (∀ β, Ag n β γ → ∃ acc, valE E .check (run β) o T v0 ⟨n, l, M, A β⟩ = .val v acc) ∧ ∀ w0 w, SG w0 M w → upI Try.prog v w ((execOp (evalT T) o).run Try.prog w) := by
 cases hf : fastV E.P (evalT T) o.op with
 | some v =>
  refine ⟨v, fun β _ => ⟨A β, by unfold valE; simp only [hf]⟩, fun w0 w _ => ?_⟩
  rw [fastV_ok (hP ▸ hf)]
  exact ⟨rfl, Gr.refl _⟩
 | none =>
  by_cases hl : ∃ t x, o.op = .load t x
  ·obtain ⟨t, x, ho⟩ := hl
   have e : ∀ β, valE E .check (run β) o T v0 ⟨n, l, M, A β⟩ = (match loadE E.P .check (evalT T x) t ⟨n, l, M, A β⟩ fun v s => .ok (.sub v [] :: s.acc) with
    | .ok (.sub v _ :: acc) => .val v acc
    | .error e => .bad e
    | _ => .bad 62 : Res) := fun β => by
     have hf' := hf
     rw [ho] at hf'
     unfold valE
     simp only [ho, hf']
     rfl
   have hk : KeepK (fun (v : Value) (s : Sg) => (.ok (.sub v [] :: s.acc) : Out)) := fun v s l hl hg x hx => by cases hl; exact hg x (List.mem_cons_of_mem _ hx)
   have hg1 : ∀ β, Ag n β γ → good (loadE E.P .check (evalT T x) t ⟨n, l, M, A β⟩ fun v s => .ok (.sub v [] :: s.acc)) := fun β hβ => by
    have := hg β hβ
    rw [e] at this
    split at this
    ·rename_i v l' acc hq
     rw [hq, good_ok]
     intro y hy
     rcases List.mem_cons.1 hy with rfl | hy
     ·rfl
     ·exact this y hy
    ·exact this.elim
    ·exact this.elim
   obtain ⟨a, v, h2, hx, hrun, hE⟩ := loadE_st hk (hg1 γ .refl)
   refine ⟨v, fun β _ => ?_, fun w0 w hS => ?_⟩
   ·obtain ⟨B, hB, h3⟩ := hE (A β)
    exact ⟨B, by rw [e, h3]⟩
   ·have hr2 : (execOp (evalT T) o).run Try.prog w = .ok (.value v) w := by
     unfold execOp
     have := hrun w0 w hS
     rw [hP] at this
     simp [ho, Instr.loadAt, Instr.sureAddr, hx, this]
    rw [hr2]
    exact ⟨rfl, Gr.refl _⟩
  ·by_cases hpk : ∃ c a b, o.op = .pick c a b
   ·obtain ⟨c, a, b, ho⟩ := hpk
    have e : ∀ β, valE E .check (run β) o T v0 ⟨n, l, M, A β⟩ = (match pickV .check (evalT T c) (evalT T a) (evalT T b) ⟨n, l, M, A β⟩ fun v s => .ok (.sub v [] :: s.acc) with
     | .ok (.sub v _ :: acc) => .val v acc
     | .error e => .bad e
     | _ => .bad 75 : Res) := fun β => by
      have hf' := hf
      rw [ho] at hf'
      unfold valE
      simp only [ho, hf']
      rfl
    have hk : KeepK (fun (v : Value) (s : Sg) => (.ok (.sub v [] :: s.acc) : Out)) := fun v s l hl hg x hx => by cases hl; exact hg x (List.mem_cons_of_mem _ hx)
    have hg1 : good (pickV .check (evalT T c) (evalT T a) (evalT T b) ⟨n, l, M, A γ⟩ fun v s => .ok (.sub v [] :: s.acc)) := by
     have := hg γ .refl
     rw [e] at this
     split at this
     ·rename_i v l' acc hq
      rw [hq, good_ok]
      intro y hy
      rcases List.mem_cons.1 hy with rfl | hy
      ·rfl
      ·exact this y hy
     ·exact this.elim
     ·exact this.elim
    obtain ⟨q, h2, hx, hE⟩ := pickV_st hk hg1
    refine ⟨if q then evalT T a else evalT T b, fun β _ => ?_, fun w0 w hS => ?_⟩
    ·obtain ⟨B, hB, h3⟩ := hE (A β)
     exact ⟨B, by rw [e, h3]⟩
    ·rw [run_pick ho hx]
     exact ⟨rfl, Gr.refl _⟩
   have e : ∀ β, valE E .check (run β) o T v0 ⟨n, l, M, A β⟩ = (match evV E.P .check (execOp (evalT T) o) ⟨n, l, M, A β⟩ fun x s => .ok (.nx x s.h :: s.acc) with
    | .ok (.nx x l :: acc) => match x with
     | .value v => .val v acc
     | .enter f args => match E.P.inits.toList.all (fun g => !(Nat.beq g f)) with
      | false => .bad 64
      | true => match callE E .check (run β) f args.toList ⟨n, l, M.map thaw, acc⟩ fun v s => .ok (.eqv v v0 :: s.acc) with
       | .ok acc => .val v0 acc
       | .error e => .bad e
     | _ => .bad 66
    | .error e => .bad e
    | _ => .bad 67 : Res) := fun β => by
     unfold valE
     simp only [hf]
     split
     ·rename_i ho; exact absurd ⟨_, _, ho⟩ hl
     ·rename_i ho; exact absurd ⟨_, _, _, ho⟩ hpk
     ·rfl
   have hk : KeepK (fun (x : Next) (s : Sg) => (.ok (.nx x s.h :: s.acc) : Out)) := fun v s l hl hg x hx => by cases hl; exact hg x (List.mem_cons_of_mem _ hx)
   have hkc : KeepK (fun (v : Value) (s : Sg) => (.ok (.eqv v v0 :: s.acc) : Out)) := fun v s l hl hg x hx => by cases hl; exact hg x (List.mem_cons_of_mem _ hx)
   have hg1 : good (evV E.P .check (execOp (evalT T) o) ⟨n, l, M, A γ⟩ fun x s => .ok (.nx x s.h :: s.acc)) := by
    have := hg γ .refl
    rw [e] at this
    split at this
    ·rename_i x l' acc hq
     rw [hq, good_ok]
     have hacc : ∀ y ∈ acc, y.l = y.r := by
      split at this
      ·exact this
      ·split at this
       ·exact this.elim
       ·split at this
        ·rename_i acc' hq'
         exact callE_kp (hkp γ) _ _ ⟨n, l', M.map thaw, acc⟩ _ hkc acc' hq' this
        ·exact this.elim
      ·exact this.elim
     intro y hy
     rcases List.mem_cons.1 hy with rfl | hy
     ·rfl
     ·exact hacc y hy
    ·exact this.elim
    ·exact this.elim
   obtain ⟨x, h2, hrun, hE⟩ := evV_st _ _ _ hk hg1
   have e2 : ∀ β, ∃ B, A β ⊆ B ∧ valE E .check (run β) o T v0 ⟨n, l, M, A β⟩ = (match (generalizing := false) x with
     | .value v => .val v B
     | .enter f args => match E.P.inits.toList.all (fun g => !(Nat.beq g f)) with
      | false => .bad 64
      | true => match callE E .check (run β) f args.toList ⟨n, h2, M.map thaw, B⟩ fun v s => .ok (.eqv v v0 :: s.acc) with
       | .ok acc => .val v0 acc
       | .error e => .bad e
     | _ => .bad 66 : Res) := fun β => by
    obtain ⟨B, hB, h3⟩ := hE (A β)
    exact ⟨B, hB, by rw [e, h3]⟩
   cases x with
   | value v =>
    refine ⟨v, fun β _ => ?_, fun w0 w hS => ?_⟩
    ·obtain ⟨B, hB, h3⟩ := e2 β
     exact ⟨B, h3⟩
    ·have := hrun w0 w hS
     rw [hP] at this
     rw [this]
     exact ⟨rfl, Gr.refl _⟩
   | enter f args =>
    cases hi : E.P.inits.toList.all (fun g => !(Nat.beq g f)) with
    | false =>
     obtain ⟨B, hB, h3⟩ := e2 γ
     simp only [hi] at h3
     have := hg γ .refl
     rw [h3] at this
     exact this.elim
    | true =>
     simp only [hi] at e2
     have hg2 : ∀ β, Ag n β γ → good (callE E .check (run β) f args.toList ⟨n, h2, M.map thaw, Classical.choose (e2 β)⟩ fun v s => .ok (.eqv v v0 :: s.acc)) ∧
       ∃ acc, valE E .check (run β) o T v0 ⟨n, l, M, A β⟩ = .val v0 acc := fun β hβ => by
      obtain ⟨hB, h3⟩ := Classical.choose_spec (e2 β)
      have := hg β hβ
      rw [h3] at this
      split at this
      ·rename_i acc' hq'
       refine ⟨by rw [hq', good_ok]; exact this, acc', ?_⟩
       rw [h3]
       simp only [hq']
      ·exact this.elim
     refine ⟨v0, fun β hβ => (hg2 β hβ).2, fun w0 w hS => ?_⟩
     have := hrun w0 w hS
     rw [hP] at this
     rw [this]
     have hc := callE_ok hs hr w w f args.toList γ n h2 (M.map thaw) (fun β => Classical.choose (e2 β)) (fun _ v s => .ok (.eqv v v0 :: s.acc)) (fun _ => hkc) hS.thaw (fun β hβ => (hg2 β hβ).1)
     have hc : Calls Try.prog f args w fun e w' => ∃ v, e = .returned v ∧ On w n γ (fun _ v s => .ok (.eqv v v0 :: s.acc)) v w' := by simpa using hc
     refine ⟨all_inits (hP ▸ hi), hc.mono fun e w' ⟨v, he, γ', n', h', M', A', hS', hle, hag, hgd⟩ => ?_, Gr.refl _⟩
     have h4 := good_ok.1 (hgd γ' .refl) _ (List.mem_cons_self ..)
     simp only [It.l, It.r, Lv.v.injEq] at h4
     exact ⟨h4 ▸ he, hS'.gr⟩
   | _ =>
    obtain ⟨B, hB, h3⟩ := e2 γ
    have := hg γ .refl
    rw [h3] at this
    exact this.elim
def planH (P : Program) (o : Oper) (i : Nat) (h : List It) : List (Nat × Sn.LayT) :=
 match h with
 | .lay v0 _ :: _ => match laysK P o.op with
  | some (t, mk) => [(i, ⟨fun z => mk z.b, fun _ => (cellsV v0).toArray, t⟩)]
  | none => []
 | .cal v c t _ :: _ => [(i, ⟨v, fun z => (c z).toArray, t⟩)]
 | _ => []
def planL (P : Program) : List Oper → Nat → List It → List (Nat × Sn.LayT)
 | [], _, _ => []
 | o :: l, i, h => planH P o i h ++ planL P l (i + 1) h.tail
theorem planH_eq {P : Program} {o : Oper} {i : Nat} {h : List It} {x : Nat × Sn.LayT} (hx : x ∈ planH P o i h) : x.1 = i := by
 unfold planH at hx
 split at hx
 ·split at hx
  ·rw [List.mem_singleton.1 hx]
  ·cases hx
 ·rw [List.mem_singleton.1 hx]
 ·cases hx
theorem planH_le (P : Program) (o : Oper) (i : Nat) (h : List It) : (planH P o i h).length ≤ 1 := by
 unfold planH
 split
 ·split <;> simp
 ·simp
 ·simp
theorem planL_ge {P : Program} : ∀ (l : List Oper) (i : Nat) (h : List It), ∀ x ∈ planL P l i h, i ≤ x.1 ∧ x.1 < i + l.length := by
 intro l
 induction l with
 | nil => intro i h x hx; cases hx
 | cons o l ih =>
  intro i h x hx
  simp only [planL, List.mem_append] at hx
  simp only [List.length_cons]
  rcases hx with hx | hx
  ·have := planH_eq hx
   omega
  ·have := ih (i + 1) _ x hx
   omega
theorem planL_nodup {P : Program} : ∀ (l : List Oper) (i : Nat) (h : List It), ((planL P l i h).map (·.1)).Nodup := by
 intro l
 induction l with
 | nil => intro i h; exact List.nodup_nil
 | cons o l ih =>
  intro i h
  simp only [planL, List.map_append]
  refine List.nodup_append.2 ⟨?_, ih _ _, fun a ha b hb => ?_⟩
  ·have := planH_le P o i h
   match hq : planH P o i h, this with
   | [], _ => exact List.nodup_nil
   | [x], _ => simp
  ·obtain ⟨x, hx, rfl⟩ := List.mem_map.1 ha
   obtain ⟨y, hy, rfl⟩ := List.mem_map.1 hb
   have h1 := planH_eq hx
   have h2 := planL_ge l (i + 1) _ y hy
   omega
theorem lookup_mem {ls : List (Nat × Sn.LayT)} (hn : (ls.map (·.1)).Nodup) {x : Nat × Sn.LayT} (hx : x ∈ ls) : Sn.layL ls x.1 = some x.2 := by
 induction ls with
 | nil => cases hx
 | cons y ls ih =>
  unfold Sn.layL at *
  simp only [List.map_cons, List.nodup_cons] at hn
  rcases List.mem_cons.1 hx with rfl | hx'
  ·simp [List.lookup]
  ·have hne : x.1 ≠ y.1 := fun h => hn.1 (h ▸ List.mem_map.2 ⟨x, hx', rfl⟩)
   have : (x.1 == y.1) = false := by simpa using hne
   obtain ⟨a, b⟩ := y
   simp only [List.lookup, this]
   exact ih hn.2 hx'
theorem lookup_not {ls : List (Nat × Sn.LayT)} {i : Nat} (h : ∀ x ∈ ls, x.1 ≠ i) : Sn.layL ls i = none := by
 induction ls with
 | nil => rfl
 | cons y ls ih =>
  unfold Sn.layL at *
  have hne : i ≠ y.1 := fun e => h y (List.mem_cons_self ..) e.symm
  have : (i == y.1) = false := by simpa using hne
  obtain ⟨a, b⟩ := y
  simp only [List.lookup, this]
  exact ih fun x hx => h x (List.mem_cons_of_mem _ hx)
def rowL (βr : Nat → Fr) (x : Nat × Sn.LayT) : Nat × Rw := (x.1, ⟨(βr x.1).b, (x.2.c (βr x.1)).toList, x.2.t, true⟩)
theorem rows_of {ls : List (Nat × Sn.LayT)} (hn : (ls.map (·.1)).Nodup) (βr : Nat → Fr) : ∀ (pre : List (Nat × Sn.LayT)), (∀ x ∈ pre, x ∈ ls) → Sn.rowsOf (Sn.layL ls) βr (pre.map (·.1)) = ents ((pre.map (rowL βr)).map (·.2)) := by
 intro pre
 induction pre with
 | nil => intro _; rfl
 | cons x pre ih =>
  intro h
  have h1 := ih fun y hy => h y (List.mem_cons_of_mem _ hy)
  have h2 := lookup_mem hn (h x (List.mem_cons_self ..))
  unfold Sn.rowsOf ents at *
  simp only [List.map_cons, List.filterMap_cons, h2, Option.map_some, rowL, List.filter_cons, if_true]
  rw [h1]
theorem ents_append (M M' : List Rw) : ents (M ++ M') = ents M ++ ents M' := by unfold ents; simp
def KpR (A : List It) (r : Res) : Prop := gR r → ∀ x ∈ A, x.l = x.r
theorem valE_kp {E : Env} {run : CallE} (hr : RunKp run) (o : Oper) (T : Tm) (v0 : Value) (s : Sg) : KpR s.acc (valE E .check run o T v0 s) := by
 have hk1 : KeepK (fun (v : Value) (s : Sg) => (.ok (.sub v [] :: s.acc) : Out)) := fun v s l hl hg x hx => by cases hl; exact hg x (List.mem_cons_of_mem _ hx)
 have hk2 : KeepK (fun (x : Next) (s : Sg) => (.ok (.nx x s.h :: s.acc) : Out)) := fun v s l hl hg x hx => by cases hl; exact hg x (List.mem_cons_of_mem _ hx)
 have hk3 : KeepK (fun (v : Value) (s : Sg) => (.ok (.eqv v v0 :: s.acc) : Out)) := fun v s l hl hg x hx => by cases hl; exact hg x (List.mem_cons_of_mem _ hx)
 unfold valE
 split
 ·exact fun h => h
 ·split
  ·split
   ·rename_i v l acc hq
    refine fun h => loadE_kp hk1 _ hq fun x hx => ?_
    rcases List.mem_cons.1 hx with rfl | hx
    ·rfl
    ·exact h x hx
   ·exact fun h => h.elim
   ·exact fun h => h.elim
  ·split
   ·rename_i v l acc hq
    refine fun h => pickV_kp hk1 _ hq fun x hx => ?_
    rcases List.mem_cons.1 hx with rfl | hx
    ·rfl
    ·exact h x hx
   ·exact fun h => h.elim
   ·exact fun h => h.elim
  ·split
   ·rename_i x l acc hq
    have key : (∀ x ∈ acc, x.l = x.r) → ∀ x ∈ s.acc, x.l = x.r := fun h => evV_kp _ _ _ hk2 _ hq fun x hx => by
     rcases List.mem_cons.1 hx with rfl | hx
     ·rfl
     ·exact h x hx
    split
    ·exact fun h => key h
    ·split
     ·exact fun h => h.elim
     ·simp only
      split
      ·rename_i acc' hq'
       exact fun h => key (callE_kp hr _ _ ⟨s.n, l, s.M.map thaw, acc⟩ _ hk3 acc' hq' h)
      ·exact fun h => h.elim
    ·exact fun h => h.elim
   ·exact fun h => h.elim
   ·exact fun h => h.elim
theorem calF_kp {E : Env} {H : CHole} {β : Nat → Fr} {n : Nat} {f : FuncId} {acc : List It} : KpR acc (calF E .check H β n f acc) := by
 unfold calF
 split
 ·split
  ·exact fun h x hx => h x (List.mem_cons_of_mem _ hx)
  ·exact fun h => h.elim
 ·split
  ·exact fun h => h
  ·exact fun h => h.elim
theorem cI_sub (H : CHole) (M : List Rw) (A : List It) : A ⊆ cI .check H M A := fun _ hx => List.mem_cons_of_mem _ hx
theorem okK : ∀ s : Sg, Kp s.acc (.ok s.acc : Out) := fun s l hl hg => by cases hl; exact hg
theorem nxK : KeepK (fun (x : Next) (s : Sg) => (.ok (.nx x s.h :: s.acc) : Out)) := fun v s l hl hg x hx => by cases hl; exact hg x (List.mem_cons_of_mem _ hx)
theorem calE_kp {E : Env} {β : Nat → Fr} (o : Oper) (T : Tm) (s : Sg) {r : Res} (h : calE E .check β o T s = some r) : KpR s.acc r := by
 unfold calE at h
 split at h
 ·split at h
  ·rename_i f args l acc hq
   split at h
   ·rename_i H hH
    have key : (∀ x ∈ acc, x.l = x.r) → ∀ x ∈ s.acc, x.l = x.r := fun h => evV_kp _ _ _ nxK _ hq fun x hx => by
     rcases List.mem_cons.1 hx with rfl | hx
     ·rfl
     ·exact h x hx
    split at h
    ·cases h; exact fun h => h.elim
    ·rename_i acc2 hq2
     cases h
     exact fun hg => key fun x hx => pickPs_kp okK _ _ _ hq2 (calF_kp hg) x (cI_sub _ _ _ hx)
   ·cases h
  ·cases h
 ·cases h
theorem calE_st {E : Env} {β : Nat → Fr} {o : Oper} {T : Tm} {n : Nat} {l : List It} {M : List Rw} {A : List It} {r : Res} (h : calE E .check β o T ⟨n, l, M, A⟩ = some r) (hg : gR r) :
  ∃ f args H, (∀ w0 w, SG w0 M w → (execOp (evalT T) o).run E.P w = .ok (.enter f args) w) ∧ E.csum f args.toList (M.map thaw) = some H ∧ M.map thaw = H.rows ∧ (∀ b ∈ H.pre, b = true) ∧
   ∀ (β' : Nat → Fr) (A' : List It), ∃ B, A' ⊆ B ∧ calE E .check β' o T ⟨n, l, M, A'⟩ = some (calF E .check H β' n f B) := by
 unfold calE at h
 split at h
 ·rename_i ci hop
  split at h
  ·rename_i f args l2 acc hq
   split at h
   ·rename_i H hH
    split at h
    ·cases h; exact hg.elim
    ·rename_i acc2 hq2
     cases h
     have g2 : ∀ x ∈ acc2, x.l = x.r := calF_kp hg
     have hgp : good (pickPs .check H.pre ⟨n, l2, M, cI .check H (M.map thaw) acc⟩ fun s => .ok s.acc) := by rw [hq2, good_ok]; exact g2
     have gc : ∀ x ∈ cI .check H (M.map thaw) acc, x.l = x.r := pickPs_kp okK _ _ _ hq2 g2
     have hrows : M.map thaw = H.rows := by
      have := gc _ (List.mem_cons_self ..)
      simp only [It.l, It.r, Lv.v.injEq] at this
      exact encM_inj this
     obtain ⟨hpre, h2, hE2⟩ := pickPs_inv okK H.pre _ hgp
     have hgv : good (evV E.P .check (execOp (evalT T) o) ⟨n, l, M, A⟩ fun x s => .ok (.nx x s.h :: s.acc)) := by
      rw [hq, good_ok]
      intro x hx
      rcases List.mem_cons.1 hx with rfl | hx
      ·rfl
      ·exact gc x (cI_sub _ _ _ hx)
     obtain ⟨a, h3, hrun, hE⟩ := evV_st _ _ _ nxK hgv
     obtain ⟨B0, _, hB0⟩ := hE A
     have h4 := hB0 (fun x s => .ok (.nx x s.h :: s.acc))
     rw [hq] at h4
     simp only [Except.ok.injEq, List.cons.injEq, It.nx.injEq] at h4
     obtain ⟨⟨rfl, rfl⟩, rfl⟩ := h4
     refine ⟨f, args, H, hrun, hH, hrows, hpre, fun β' A' => ?_⟩
     obtain ⟨B, hB, h5⟩ := hE A'
     have h6 := h5 (fun x s => .ok (.nx x s.h :: s.acc))
     obtain ⟨B2, hB2, h7⟩ := hE2 (cI .check H (M.map thaw) B)
     refine ⟨B2, fun x hx => hB2 (cI_sub _ _ _ (hB hx)), ?_⟩
     unfold calE
     simp only [hop, h6, hH, h7 (fun s => .ok s.acc)]
   ·cases h
  ·cases h
 ·cases h
theorem opE_kp {E : Env} {β : Nat → Fr} {run : CallE} (hr : RunKp run) (o : Oper) (T : Tm) (v0 : Value) (s : Sg) : KpR s.acc (opE E .check β run o T v0 s) := by
 unfold opE
 split
 ·unfold layE
  split
  ·split
   ·exact fun h => h
   ·exact fun h => h.elim
  ·exact fun h => h.elim
 ·split
  ·rename_i r hr2
   exact calE_kp o T s hr2
  ·exact valE_kp hr o T v0 s
theorem opD_eq {E : Env} {β : Nat → Fr} {run : CallE} {all : List Oper} {o : Oper} {T : Tm} {v0 : Value} {s : Sg} {g : Bool} {l acc : List It} (h : askG .check all T o s kD = .ok (.sub (.bool g) l :: acc)) :
  opD E .check β run all o T v0 s = (match (generalizing := false) g with | false => .val undef acc | true => opE E .check β run o T v0 ⟨s.n, l, s.M, acc⟩) := by
 unfold opD
 have h' : (askG .check all T o s fun g s => .ok (.sub (.bool g) s.h :: s.acc)) = .ok (.sub (.bool g) l :: acc) := h
 rw [h']
 rfl
theorem opD_kp {E : Env} {β : Nat → Fr} {run : CallE} (hr : RunKp run) (all : List Oper) (o : Oper) (T : Tm) (v0 : Value) (s : Sg) : KpR s.acc (opD E .check β run all o T v0 s) := by
 rcases askD all T o s.n s.h s.M with ⟨e, he⟩ | ⟨g, l, X, he, _⟩
 ·have h' : (askG .check all T o s fun g s => .ok (.sub (.bool g) s.h :: s.acc)) = .error e := he s.acc
  unfold opD
  rw [h']
  exact fun h => h.elim
 ·rw [opD_eq (he s.acc)]
  have key : (∀ x ∈ X ++ s.acc, x.l = x.r) → ∀ x ∈ s.acc, x.l = x.r := fun h x hx => h x (List.mem_append_right _ hx)
  cases g with
  | false => exact fun h => key h
  | true => exact fun h => key (opE_kp hr o T v0 ⟨s.n, l, s.M, X ++ s.acc⟩ h)
theorem evD_cons (E : Env) (rm : Region.Mode) (β : Nat → Fr) (run : CallE) (all : List Oper) (o : Oper) (l : List Oper) (i : Nat) (T : Tm) (s : Sg) (L : List (Nat × Rw)) (K : KK Tm) :
  evD E rm .check β run all (o :: l) i T s L K = (match s.h with
    | .sub v0 lh :: h => match opD E .check β run all o T v0 ⟨s.n, lh, rowsD rm all i L s.M, s.acc⟩ with
     | .val v acc => evD E rm .check β run all l (i + 1) (putL T o.dst v) ⟨s.n, h, s.M, acc⟩ L K
     | .lay _ _ _ _ => .error 68
     | .cal _ _ _ _ => .error 112
     | .bad n => .error n
    | .cal v c t lh :: h => match opD E .check β run all o T undef ⟨s.n, lh, rowsD rm all i L s.M, s.acc⟩ with
     | .cal v' c' t' acc => evD E rm .check β run all l (i + 1) (putL T o.dst (v (β s.n))) ⟨s.n + 1, h, s.M, .eqv (v' (β s.n)) (v (β s.n)) :: .eqv (encM [⟨(β s.n).b, c' (β s.n), t', true⟩]) (encM [⟨(β s.n).b, c (β s.n), t, true⟩]) :: acc⟩ (L ++ [(i, ⟨(β s.n).b, c (β s.n), t, true⟩)]) K
     | .bad n => .error n
     | _ => .error 113
    | .lay v0 lh :: h => match opD E .check β run all o T v0 ⟨s.n, lh, rowsD rm all i L s.M, s.acc⟩ with
     | .cal _ _ _ _ => .error 114
     | .val _ _ => .error 69
     | .lay v r mk acc => evD E rm .check β run all l (i + 1) (putL T o.dst (mk (β s.n).b)) ⟨s.n + 1, h, s.M, .eqv v (mk (β s.n).b) :: .eqv (.agg ⟨r.c⟩) (.agg ⟨cellsV v0⟩) :: acc⟩ (L ++ [(i, ⟨(β s.n).b, cellsV v0, r.t, true⟩)]) K
     | .bad n => .error n
    | _ => .error 46 : Out) := by
 have e : evD E rm .check β run all (o :: l) i T s L K = (match s.h with
    | .sub v0 lh :: h => match opD E .check β run all o T v0 ⟨s.n, lh, rowsD rm all i L s.M, s.acc⟩ with
     | .val v acc => putT T o.dst v fun T => evD E rm .check β run all l (i + 1) T ⟨s.n, h, s.M, acc⟩ L K
     | .lay _ _ _ _ => .error 68
     | .cal _ _ _ _ => .error 112
     | .bad n => .error n
    | .cal v c t lh :: h => match opD E .check β run all o T undef ⟨s.n, lh, rowsD rm all i L s.M, s.acc⟩ with
     | .cal v' c' t' acc => putT T o.dst (v (β s.n)) fun T => evD E rm .check β run all l (i + 1) T ⟨s.n + 1, h, s.M, .eqv (v' (β s.n)) (v (β s.n)) :: .eqv (encM [⟨(β s.n).b, c' (β s.n), t', true⟩]) (encM [⟨(β s.n).b, c (β s.n), t, true⟩]) :: acc⟩ (L ++ [(i, ⟨(β s.n).b, c (β s.n), t, true⟩)]) K
     | .bad n => .error n
     | _ => .error 113
    | .lay v0 lh :: h => match opD E .check β run all o T v0 ⟨s.n, lh, rowsD rm all i L s.M, s.acc⟩ with
     | .cal _ _ _ _ => .error 114
     | .val _ _ => .error 69
     | .lay v r mk acc => putT T o.dst (mk (β s.n).b) fun T => evD E rm .check β run all l (i + 1) T ⟨s.n + 1, h, s.M, .eqv v (mk (β s.n).b) :: .eqv (.agg ⟨r.c⟩) (.agg ⟨cellsV v0⟩) :: acc⟩ (L ++ [(i, ⟨(β s.n).b, cellsV v0, r.t, true⟩)]) K
     | .bad n => .error n
    | _ => .error 46 : Out) := rfl
 rw [e]
 simp only [putT_eq]
theorem evD_kp {E : Env} {rm : Region.Mode} {β : Nat → Fr} {run : CallE} (hr : RunKp run) {all : List Oper} {K : KK Tm} (hk : KeepK K) :
  ∀ (l : List Oper) (i : Nat) (T : Tm) (s : Sg) (L : List (Nat × Rw)), Kp s.acc (evD E rm .check β run all l i T s L K) := by
 intro l
 induction l with
 | nil => exact fun i T s L => hk T ⟨s.n, s.h, L.map (·.2) ++ s.M, s.acc⟩
 | cons o l ih =>
  intro i T s L
  rw [evD_cons]
  split
  ·rename_i v0 lh h hh
   have hop := opD_kp (E := E) (β := β) hr all o T v0 ⟨s.n, lh, rowsD rm all i L s.M, s.acc⟩
   split
   ·rename_i v acc hq
    rw [hq] at hop
    exact fun l' hl hg => hop (ih (i + 1) _ ⟨s.n, h, s.M, acc⟩ L l' hl hg)
   ·exact .err
   ·exact .err
   ·exact .err
  ·rename_i v c t lh h hh
   have hop := opD_kp (E := E) (β := β) hr all o T undef ⟨s.n, lh, rowsD rm all i L s.M, s.acc⟩
   split
   ·rename_i v' c' t' acc hq
    rw [hq] at hop
    exact fun l' hl hg => hop fun x hx => ih (i + 1) _ ⟨s.n + 1, h, s.M, .eqv (v' (β s.n)) (v (β s.n)) :: .eqv (encM [⟨(β s.n).b, c' (β s.n), t', true⟩]) (encM [⟨(β s.n).b, c (β s.n), t, true⟩]) :: acc⟩ _ l' hl hg x (List.mem_cons_of_mem _ (List.mem_cons_of_mem _ hx))
   ·exact .err
   ·exact .err
  ·rename_i v0 lh h hh
   have hop := opD_kp (E := E) (β := β) hr all o T v0 ⟨s.n, lh, rowsD rm all i L s.M, s.acc⟩
   split
   ·exact .err
   ·exact .err
   ·rename_i v r mk acc hq
    rw [hq] at hop
    exact fun l' hl hg => hop fun x hx => ih (i + 1) _ ⟨s.n + 1, h, s.M, .eqv v (mk (β s.n).b) :: .eqv (.agg ⟨r.c⟩) (.agg ⟨cellsV v0⟩) :: acc⟩ _ l' hl hg x (List.mem_cons_of_mem _ (List.mem_cons_of_mem _ hx))
   ·exact .err
  ·exact .err
theorem opD_ok {E : Env} (hP : E.P = Try.prog) (hs : SumOk E) (hop : OphOk E) {run : (Nat → Fr) → CallE} (hkp : ∀ β, RunKp (run β)) (hr : RunOk run) {all : List Oper} {o : Oper} {T : Tm} {v0 : Value} {γ : Nat → Fr} {n : Nat} {lh : List It} {M : List Rw} {A : (Nat → Fr) → List It}
  (hg : ∀ β, Ag n β γ → gR (opD E .check β (run β) all o T v0 ⟨n, lh, M, A β⟩)) :
  (∃ v, (∀ β, Ag n β γ → ∃ acc, opD E .check β (run β) all o T v0 ⟨n, lh, M, A β⟩ = .val v acc) ∧
   ((Region.wanted o (yielded all.toArray T.toArray) = false ∧ v = undef) ∨ (Region.wanted o (yielded all.toArray T.toArray) = true ∧ ∀ w0 w, SG w0 M w → upI Try.prog v w ((execOp (evalT T) o).run Try.prog w)))) ∨
  (∃ (t : TypeId) (mk : Nat → Value) (c : Array Value) (k : Nat → Sem Next), laysK E.P o.op = some (t, mk) ∧ Region.wanted o (yielded all.toArray T.toArray) = true ∧ (∀ w, (execOp (evalT T) o).run Try.prog w = (k w.heap.size).run Try.prog (w.alloc (.cells c t))) ∧
   ∀ β, Ag n β γ → ∃ v acc, k (β n).b = .pure (.value v) ∧ opD E .check β (run β) all o T v0 ⟨n, lh, M, A β⟩ = .lay v ⟨(β n).b, c.toList, t, true⟩ mk acc) ∨
  (∃ (f : FuncId) (args : Array Value) (H : CHole), Region.wanted o (yielded all.toArray T.toArray) = true ∧ (∀ w0 w, SG w0 M w → (execOp (evalT T) o).run Try.prog w = .ok (.enter f args) w) ∧
   (∀ w0 w, SG w0 M w → Calls Try.prog f args w fun e w' => ∃ z : Fr, e = .returned (H.v [z]) ∧ SG w (H.lay [z] ++ M.map thaw) w') ∧
   ∀ β, Ag n β γ → ∃ t acc, opD E .check β (run β) all o T v0 ⟨n, lh, M, A β⟩ = .cal (fun fr => H.v [fr]) (fun fr => hdC (H.lay [fr])) t acc ∧ ((∀ x ∈ acc, x.l = x.r) → H.lay [β n] = [⟨(β n).b, hdC (H.lay [β n]), t, true⟩])) := by
 rcases askD all T o n lh M with ⟨e, he⟩ | ⟨g, l, X, he, hX⟩
 ·have h0 := hg γ .refl
  have h' : (askG .check all T o ⟨n, lh, M, A γ⟩ fun g s => .ok (.sub (.bool g) s.h :: s.acc)) = .error e := he (A γ)
  unfold opD at h0
  rw [h'] at h0
  exact h0.elim
 ·have heq := fun β => opD_eq (E := E) (β := β) (run := run β) (v0 := v0) (he (A β))
  have hw : Region.wanted o (yielded all.toArray T.toArray) = g := by
   have h0 := hg γ .refl
   rw [heq] at h0
   refine hX fun x hx => ?_
   cases g with
   | false => exact h0 x (List.mem_append_left _ hx)
   | true => exact opE_kp (hkp γ) o T v0 ⟨n, l, M, X ++ A γ⟩ h0 x (List.mem_append_left _ hx)
  cases g with
  | false => exact .inl ⟨undef, fun β _ => ⟨_, heq β⟩, .inl ⟨hw, rfl⟩⟩
  | true =>
   simp only at heq
   have hg1 : ∀ β, Ag n β γ → gR (opE E .check β (run β) o T v0 ⟨n, l, M, X ++ A β⟩) := fun β hβ => heq β ▸ hg β hβ
   cases hl : laysK E.P o.op with
   | none =>
    have e1 : ∀ β, opE E .check β (run β) o T v0 ⟨n, l, M, X ++ A β⟩ = (match calE E .check β o T ⟨n, l, M, X ++ A β⟩ with | some r => r | none => valE E .check (run β) o T v0 ⟨n, l, M, X ++ A β⟩) := fun β => by unfold opE; simp only [hl]; cases calE E .check β o T ⟨n, l, M, X ++ A β⟩ <;> rfl
    cases hc : calE E .check γ o T ⟨n, l, M, X ++ A γ⟩ with
    | none =>
     have hnone : ∀ β, Ag n β γ → calE E .check β o T ⟨n, l, M, X ++ A β⟩ = none := fun β hβ => by
      cases hc2 : calE E .check β o T ⟨n, l, M, X ++ A β⟩ with
      | none => rfl
      | some r =>
       have h1 := hg1 β hβ
       rw [e1, hc2] at h1
       obtain ⟨f, args, H, _, _, _, _, hE⟩ := calE_st hc2 h1
       obtain ⟨B, _, hB⟩ := hE γ (X ++ A γ)
       rw [hc] at hB
       cases hB
     have e2 : ∀ β, Ag n β γ → opE E .check β (run β) o T v0 ⟨n, l, M, X ++ A β⟩ = valE E .check (run β) o T v0 ⟨n, l, M, X ++ A β⟩ := fun β hβ => by rw [e1, hnone β hβ]
     obtain ⟨v, h1, h2⟩ := valE_ok hP hs hkp hr (A := fun β => X ++ A β) (fun β hβ => e2 β hβ ▸ hg1 β hβ)
     refine .inl ⟨v, fun β hβ => ?_, .inr ⟨hw, h2⟩⟩
     obtain ⟨acc, h3⟩ := h1 β hβ
     exact ⟨acc, by rw [heq, e2 β hβ, h3]⟩
    | some r =>
     have h1 := hg1 γ .refl
     rw [e1, hc] at h1
     obtain ⟨f, args, H, hrun, hH, hrows, hpre, hE⟩ := calE_st hc h1
     have e2 : ∀ β, ∃ B, opD E .check β (run β) all o T v0 ⟨n, lh, M, A β⟩ = calF E .check H β n f B := fun β => by
      obtain ⟨B, _, hB⟩ := hE β (X ++ A β)
      exact ⟨B, by rw [heq, e1, hB]⟩
     have hcon : ∀ w0 w, SG w0 M w → Calls Try.prog f args w fun e w' => ∃ fr : List Fr, fr.length = H.n ∧ e = .returned (H.v fr) ∧ SG w (H.lay fr ++ M.map thaw) w' := fun w0 w hS => by
      simpa using hop.1 f args.toList (M.map thaw) H hH hrows hpre w w hS.thaw
     rw [hP] at hrun
     by_cases h1 : H.n = 1
     ·have hb : Nat.beq H.n 1 = true := by rw [h1]; rfl
      refine .inr (.inr ⟨f, args, H, hw, hrun, fun w0 w hS => (hcon w0 w hS).mono fun e w' ⟨fr, hl, he, hS'⟩ => ?_, fun β hβ => ?_⟩)
      ·match fr, hl.trans h1 with
       | [z], _ => exact ⟨z, he, hS'⟩
      ·obtain ⟨B, hB⟩ := e2 β
       have h2 := hg β hβ
       rw [hB] at h2
       unfold calF at hB h2
       simp only [hb] at hB h2
       split at h2
       ·rename_i r' hr'
        simp only [hr'] at hB
        refine ⟨_, _, hB, fun hx => ?_⟩
        have h3 := hx _ (List.mem_cons_self ..)
        simp only [It.l, It.r, Lv.v.injEq] at h3
        rw [hr']
        exact encM_inj h3
       ·exact h2.elim
     ·have hb : Nat.beq H.n 1 = false := by
       cases hq : Nat.beq H.n 1 with
       | false => rfl
       | true => exact absurd (Nat.eq_of_beq_eq_true hq) h1
      have h0 := hg γ .refl
      obtain ⟨B, hB⟩ := e2 γ
      rw [hB] at h0
      unfold calF at h0
      simp only [hb] at h0
      split at h0
      ·rename_i hz hlay hi
       have hz' := Nat.eq_of_beq_eq_true hz
       refine .inl ⟨H.v [], fun β _ => ?_, .inr ⟨hw, fun w0 w hS => ?_⟩⟩
       ·obtain ⟨B, hB⟩ := e2 β
        refine ⟨B, ?_⟩
        rw [hB]
        unfold calF
        simp only [hb, hz, hlay, hi]
       ·rw [hrun w0 w hS]
        refine ⟨all_inits (hP ▸ hi), (hcon w0 w hS).mono fun e w' ⟨fr, hl, he, hS'⟩ => ?_, Gr.refl _⟩
        rw [hz'] at hl
        rw [List.length_eq_zero_iff.1 hl] at he
        exact ⟨he, hS'.1.gr⟩
      ·exact h0.elim
   | some p =>
    obtain ⟨t, mk⟩ := p
    have e2 : ∀ β, opE E .check β (run β) o T v0 ⟨n, l, M, X ++ A β⟩ = layE E β o T t mk ⟨n, l, M, X ++ A β⟩ := fun β => by unfold opE; simp only [hl]
    cases hn : newV E.P (execOp (evalT T) o) with
    | none =>
     have h0 := hg1 γ .refl
     rw [e2] at h0
     unfold layE at h0
     simp only [hn] at h0
     exact h0.elim
    | some q =>
     obtain ⟨c, t', k⟩ := q
     have h0 := hg1 γ .refl
     rw [e2] at h0
     unfold layE at h0
     simp only [hn] at h0
     split at h0
     ·rename_i v ht hkv
      obtain rfl := Nat.eq_of_beq_eq_true ht
      refine .inr (.inl ⟨t, mk, c, k, rfl, hw, fun w => by rw [hP] at hn; exact newV_ok _ hn w, fun β hβ => ?_⟩)
      have h1 := hg1 β hβ
      rw [e2] at h1
      unfold layE at h1
      simp only [hn] at h1
      split at h1
      ·rename_i v' _ hkv'
       refine ⟨v', X ++ A β, hkv', ?_⟩
       rw [heq, e2]
       unfold layE
       simp only [hn, ht, hkv']
      ·exact h1.elim
     ·exact h0.elim
theorem evD_ok {E : Env} (hP : E.P = Try.prog) (hs : SumOk E) (hop : OphOk E) {run : (Nat → Fr) → CallE} (hkp : ∀ β, RunKp (run β)) (hr : RunOk run) {w0 : World} {all : List Oper} {rm : Region.Mode} {ls : List (Nat × Sn.LayT)} (hnd : (ls.map (·.1)).Nodup) {M : List Rw}
  (hF : ∀ r ∈ M, r.own = false → ∃ fr, w0.heap[r.b]? = some (.cells r.c.toArray r.t fr)) (βr : Nat → Fr) {Qf : Act → Prop} {K : (Nat → Fr) → KK Tm} (hk : ∀ β, KeepK (K β)) :
  ∀ (l : List Oper) (i : Nat) (γ : Nat → Fr) (n : Nat) (h : List It) (A : (Nat → Fr) → List It) (T : Tm) (pre : List (Nat × Sn.LayT)), ls = pre ++ planL E.P l i h → (∀ x ∈ pre, x.1 < i) →
   (∀ β, Ag n β γ → good (evD E rm .check β (run β) all l i T ⟨n, h, M, A β⟩ (pre.map (rowL βr)) (K β))) →
   (∀ (T' : Tm) (γ' : Nat → Fr) (n' : Nat) (h' : List It) (A' : (Nat → Fr) → List It), n ≤ n' → Ag n γ' γ → (∀ β, Ag n' β γ' → good (K β T' ⟨n', h', (ls.map (rowL βr)).map (·.2) ++ M, A' β⟩)) → Qf ⟨T'.toArray, []⟩) →
   Sn.wpTxt Try.prog rm all.toArray w0 (ents M) (Sn.layL ls) βr Qf i l ⟨T.toArray, []⟩ := by
 intro l
 induction l with
 | nil =>
  intro i γ n h A T pre hls hpre hg hQ
  obtain rfl : ls = pre := by rw [hls]; simp [planL]
  exact hQ T γ n h A (Nat.le_refl _) .refl hg
 | cons o l ih =>
  intro i γ n h A T pre hls hpre hg hQ
  have hin : ∀ x ∈ pre, x ∈ ls := fun x hx => by rw [hls]; exact List.mem_append_left _ hx
  refine Sn.sn_step (fun Kf hKf => ?_)
  obtain ⟨needs, hneeds, hanc, hSG⟩ : ∃ needs : List Nat, needs.Nodup ∧ (∀ j ∈ needs, ancB rm all.toArray all.toArray.size i j = true) ∧ ∀ w, St w0 (Sn.rowsOf (Sn.layL ls) βr needs ++ ents M) w → SG w0 (rowsD rm all i (pre.map (rowL βr)) M) w := by
   refine ⟨((pre.filter fun x => ancB rm all.toArray all.toArray.size i x.1).map (·.1)), ?_, ?_, fun w hS => ⟨?_, fun r hr ho => ?_⟩⟩
   ·rw [hls, List.map_append] at hnd
    exact (List.nodup_append.1 hnd).1.sublist ((List.filter_sublist).map _)
   ·intro j hj
    obtain ⟨x, hx, rfl⟩ := List.mem_map.1 hj
    exact (List.mem_filter.1 hx).2
   ·rw [rows_of hnd βr _ (fun x hx => hin x (List.mem_filter.1 hx).1)] at hS
    unfold rowsD
    rw [ents_append]
    have e : (pre.map (rowL βr)).filter (fun x => ancB rm all.toArray all.length i x.1) = (pre.filter fun x => ancB rm all.toArray all.toArray.size i x.1).map (rowL βr) := by
     rw [List.filter_map]
     congr 1
    rw [e]
    exact hS
   ·unfold rowsD at hr
    rcases List.mem_append.1 hr with hr | hr
    ·obtain ⟨x, hx, rfl⟩ := List.mem_map.1 hr
     obtain ⟨y, _, rfl⟩ := List.mem_map.1 (List.mem_filter.1 hx).1
     cases ho
    ·exact hF r hr ho
  have h0 := hg γ .refl
  rw [evD_cons] at h0
  simp only at h0
  split at h0
  ·-- a value
   rename_i v0 lh h' 
   have hnone : Sn.layL ls i = none := lookup_not fun x hx => by
    rw [hls] at hx
    rcases List.mem_append.1 hx with hx | hx
    ·have := hpre x hx; omega
    ·simp only [planL, planH, List.nil_append, List.tail_cons] at hx
     have := planL_ge l (i + 1) _ x hx
     omega
   have hg1 : ∀ β, Ag n β γ → gR (opD E .check β (run β) all o T v0 ⟨n, lh, rowsD rm all i (pre.map (rowL βr)) M, A β⟩) := fun β hβ => by
    have h1 := hg β hβ
    rw [evD_cons] at h1
    simp only at h1
    split at h1
    ·rename_i v acc hq
     rw [hq]
     obtain ⟨l', hl', hgd⟩ := h1
     exact evD_kp (hkp β) (hk β) l (i + 1) _ ⟨n, h', M, acc⟩ _ l' hl' hgd
    ·exact absurd h1 not_good
    ·exact absurd h1 not_good
    ·exact absurd h1 not_good
   rcases opD_ok hP hs hop hkp hr hg1 with ⟨v, hv, hw⟩ | ⟨t, mk, c, k, _, _, _, hb⟩ | ⟨f, args, H, _, _, _, hb⟩
   ·refine ⟨v, ?_, ?_⟩
    ·unfold Sn.YB
     rw [hnone]
     refine ⟨needs, hneeds, hanc, ?_⟩
     rcases hw with ⟨hw, rfl⟩ | ⟨hw, hu⟩
     ·exact .inr ⟨hw, rfl⟩
     ·refine .inl ⟨hw, fun w hS => ?_⟩
      rw [eval_T]
      exact hu w0 w (hSG w hS)
    ·refine hKf _ ?_
     rw [put_T]
     refine ih (i + 1) γ n h' (fun β => match opD E .check β (run β) all o T v0 ⟨n, lh, rowsD rm all i (pre.map (rowL βr)) M, A β⟩ with | .val _ acc => acc | _ => []) _ pre ?_ (fun x hx => by have := hpre x hx; omega) (fun β hβ => ?_) hQ
     ·rw [hls]; simp [planL, planH]
     ·have h1 := hg β hβ
      rw [evD_cons] at h1
      obtain ⟨acc, hacc⟩ := hv β hβ
      simp only [hacc] at h1 ⊢
      exact h1
   ·obtain ⟨v, acc, _, h3⟩ := hb γ .refl
    have h1 := hg γ .refl
    rw [evD_cons] at h1
    simp only [h3] at h1
    exact absurd h1 not_good
   ·obtain ⟨t, acc, h3, _⟩ := hb γ .refl
    have h1 := hg γ .refl
    rw [evD_cons] at h1
    simp only [h3] at h1
    exact absurd h1 not_good
  ·-- a call that lays a row
   rename_i v c t lh h'
   have hg1 : ∀ β, Ag n β γ → gR (opD E .check β (run β) all o T undef ⟨n, lh, rowsD rm all i (pre.map (rowL βr)) M, A β⟩) := fun β hβ => by
    have h1 := hg β hβ
    rw [evD_cons] at h1
    simp only at h1
    split at h1
    ·rename_i v' c' t' acc hq
     rw [hq]
     obtain ⟨l', hl', hgd⟩ := h1
     have h2 := evD_kp (hkp β) (hk β) l (i + 1) _ ⟨n + 1, h', M, _⟩ _ l' hl' hgd
     exact fun x hx => h2 x (List.mem_cons_of_mem _ (List.mem_cons_of_mem _ hx))
    ·exact absurd h1 not_good
    ·exact absurd h1 not_good
   rcases opD_ok hP hs hop hkp hr hg1 with ⟨v, hv, _⟩ | ⟨t, mk, c, k, hlk, hw, hrun, hb⟩ | ⟨f, args, H, hw, hrun, hcon, hb⟩
   ·obtain ⟨acc, h3⟩ := hv γ .refl
    have h1 := hg γ .refl
    rw [evD_cons] at h1
    simp only [h3] at h1
    exact absurd h1 not_good
   ·obtain ⟨v, acc, _, h3⟩ := hb γ .refl
    have h1 := hg γ .refl
    rw [evD_cons] at h1
    simp only [h3] at h1
    exact absurd h1 not_good
   ·have hfact : ∀ β, Ag n β γ → H.v [β n] = v (β n) ∧ H.lay [β n] = [⟨(β n).b, c (β n), t, true⟩] := fun β hβ => by
     obtain ⟨t', acc, h3, hlay⟩ := hb β hβ
     have h1 := hg β hβ
     rw [evD_cons] at h1
     simp only [h3] at h1
     obtain ⟨l', hl', hgd⟩ := h1
     have h2 := evD_kp (hkp β) (hk β) l (i + 1) _ ⟨n + 1, h', M, _⟩ _ l' hl' hgd
     have h4 := h2 _ (List.mem_cons_self ..)
     have h5 := h2 _ (List.mem_cons_of_mem _ (List.mem_cons_self ..))
     simp only [It.l, It.r, Lv.v.injEq] at h4 h5
     have h6 := encM_inj h5
     refine ⟨h4, ?_⟩
     rw [hlay fun x hx => h2 x (List.mem_cons_of_mem _ (List.mem_cons_of_mem _ hx))]
     exact h6
    have hz : ∀ z : Fr, H.v [z] = v z ∧ H.lay [z] = [⟨z.b, c z, t, true⟩] := fun z => by
     have h1 := hfact (upN γ n z) (upN_ag _ _ _)
     rw [upN_at] at h1
     exact h1
    have hpl : planL E.P (o :: l) i (.cal v c t lh :: h') = (i, ⟨v, fun z => (c z).toArray, t⟩) :: planL E.P l (i + 1) h' := by
     simp [planL, planH]
    have hsome : Sn.layL ls i = some ⟨v, fun z => (c z).toArray, t⟩ := lookup_mem hnd (x := (i, ⟨v, fun z => (c z).toArray, t⟩)) (by rw [hls, hpl]; simp)
    refine ⟨v (βr i), ?_, ?_⟩
    ·unfold Sn.YB
     rw [hsome]
     refine ⟨hw, ⟨needs, hneeds, hanc, fun w hS => ?_⟩, rfl⟩
     rw [eval_T, hrun w0 w (hSG w hS)]
     refine ⟨Gr.refl _, (hcon w0 w (hSG w hS)).mono fun e w' ⟨z, he, hS'⟩ => ?_⟩
     obtain ⟨h1, h2⟩ := hz z
     rw [h2] at hS'
     have h3 := hS'.1.2.2 ⟨z.b, (c z).toArray, t⟩ (by simp [ents])
     exact ⟨z, by rw [he, h1], h3.1, h3.2, hS'.1.gr⟩
    ·refine hKf _ ?_
     rw [put_T]
     refine ih (i + 1) (upN γ n (βr i)) (n + 1) h' (fun β => match opD E .check β (run β) all o T undef ⟨n, lh, rowsD rm all i (pre.map (rowL βr)) M, A β⟩ with | .cal v' c' t' acc => .eqv (v' (β n)) (v (β n)) :: .eqv (encM [⟨(β n).b, c' (β n), t', true⟩]) (encM [⟨(β n).b, c (β n), t, true⟩]) :: acc | _ => []) _ (pre ++ [(i, ⟨v, fun z => (c z).toArray, t⟩)]) ?_ (fun x hx => ?_) (fun β hβ => ?_) (fun T' γ' n' h' A' hle hag hq => hQ T' γ' n' h' A' (by omega) ((hag.le (Nat.le_succ n)).trans (upN_ag _ _ _)) hq)
     ·rw [hls, hpl]; simp
     ·rcases List.mem_append.1 hx with hx | hx
      ·have := hpre x hx; omega
      ·rw [List.mem_singleton.1 hx]; simp
     ·have hβ' := (hβ.le (Nat.le_succ n)).trans (upN_ag γ n (βr i))
      have hn : β n = βr i := by rw [hβ n (Nat.lt_succ_self n), upN_at]
      have h1 := hg β hβ'
      rw [evD_cons] at h1
      obtain ⟨t', acc, h3, _⟩ := hb β hβ'
      simp only [h3] at h1 ⊢
      rw [hn] at h1 ⊢
      simpa [rowL] using h1
  ·-- a row
   rename_i v0 lh h'
   have hg1 : ∀ β, Ag n β γ → gR (opD E .check β (run β) all o T v0 ⟨n, lh, rowsD rm all i (pre.map (rowL βr)) M, A β⟩) := fun β hβ => by
    have h1 := hg β hβ
    rw [evD_cons] at h1
    simp only at h1
    split at h1
    ·exact absurd h1 not_good
    ·exact absurd h1 not_good
    ·rename_i v r mk acc hq
     rw [hq]
     obtain ⟨l', hl', hgd⟩ := h1
     have h2 := evD_kp (hkp β) (hk β) l (i + 1) _ ⟨n + 1, h', M, _⟩ _ l' hl' hgd
     exact fun x hx => h2 x (List.mem_cons_of_mem _ (List.mem_cons_of_mem _ hx))
    ·exact absurd h1 not_good
   rcases opD_ok hP hs hop hkp hr hg1 with ⟨v, hv, _⟩ | ⟨t, mk, c, k, hlk, hw, hrun, hb⟩ | ⟨f, args, H, _, _, _, hb⟩
   ·obtain ⟨acc, h3⟩ := hv γ .refl
    have h1 := hg γ .refl
    rw [evD_cons] at h1
    simp only [h3] at h1
    exact absurd h1 not_good
   ·have hfact : ∀ β, Ag n β γ → k (β n).b = .pure (.value (mk (β n).b)) ∧ c.toList = cellsV v0 := fun β hβ => by
     obtain ⟨v, acc, hkv, h3⟩ := hb β hβ
     have h1 := hg β hβ
     rw [evD_cons] at h1
     simp only [h3] at h1
     obtain ⟨l', hl', hgd⟩ := h1
     have h2 := evD_kp (hkp β) (hk β) l (i + 1) _ ⟨n + 1, h', M, _⟩ _ l' hl' hgd
     have h4 := h2 _ (List.mem_cons_self ..)
     have h5 := h2 _ (List.mem_cons_of_mem _ (List.mem_cons_self ..))
     simp only [It.l, It.r, Lv.v.injEq] at h4 h5
     simp only [Value.agg.injEq, Array.mk.injEq] at h5
     exact ⟨h4 ▸ hkv, h5⟩
    have hcs : c = (cellsV v0).toArray := by rw [← (hfact γ .refl).2]
    have hpl : planL E.P (o :: l) i (.lay v0 lh :: h') = (i, ⟨fun z => mk z.b, fun _ => (cellsV v0).toArray, t⟩) :: planL E.P l (i + 1) h' := by
     simp [planL, planH, hlk]
    have hsome : Sn.layL ls i = some ⟨fun z => mk z.b, fun _ => (cellsV v0).toArray, t⟩ := lookup_mem hnd (x := (i, ⟨fun z => mk z.b, fun _ => (cellsV v0).toArray, t⟩)) (by rw [hls, hpl]; simp)
    refine ⟨mk (βr i).b, ?_, ?_⟩
    ·unfold Sn.YB
     rw [hsome]
     refine ⟨hw, ⟨[], List.nodup_nil, fun _ h => (by cases h), fun w _ => ?_⟩, rfl⟩
     rw [eval_T, hrun w]
     have h1 := hfact (upN γ n ⟨w.heap.size, fun _ => undef, []⟩) (upN_ag _ _ _)
     rw [upN_at] at h1
     rw [h1.1, hcs]
     exact ⟨⟨w.heap.size, fun _ => undef, []⟩, rfl, Nat.le_refl _, Array.getElem?_push_size, Gr.alloc (Gr.refl _) _ _⟩
    ·refine hKf _ ?_
     rw [put_T]
     refine ih (i + 1) (upN γ n (βr i)) (n + 1) h' (fun β => match opD E .check β (run β) all o T v0 ⟨n, lh, rowsD rm all i (pre.map (rowL βr)) M, A β⟩ with | .lay v r mk acc => .eqv v (mk (β n).b) :: .eqv (.agg ⟨r.c⟩) (.agg ⟨cellsV v0⟩) :: acc | _ => []) _ (pre ++ [(i, ⟨fun z => mk z.b, fun _ => (cellsV v0).toArray, t⟩)]) ?_ (fun x hx => ?_) (fun β hβ => ?_) (fun T' γ' n' h' A' hle hag hq => hQ T' γ' n' h' A' (by omega) ((hag.le (Nat.le_succ n)).trans (upN_ag _ _ _)) hq)
     ·rw [hls, hpl]; simp
     ·rcases List.mem_append.1 hx with hx | hx
      ·have := hpre x hx; omega
      ·rw [List.mem_singleton.1 hx]; simp
     ·have hβ' := (hβ.le (Nat.le_succ n)).trans (upN_ag γ n (βr i))
      have hn : β n = βr i := by rw [hβ n (Nat.lt_succ_self n), upN_at]
      have h1 := hg β hβ'
      rw [evD_cons] at h1
      obtain ⟨v, acc, _, h3⟩ := hb β hβ'
      simp only [h3] at h1 ⊢
      rw [hn] at h1 ⊢
      simpa [rowL] using h1
   ·obtain ⟨t, acc, h3, _⟩ := hb γ .refl
    have h1 := hg γ .refl
    rw [evD_cons] at h1
    simp only [h3] at h1
    exact absurd h1 not_good
  ·exact absurd h0 not_good
end Ev
end Go.Proofs.Ytjoalcaooccbiaa
/- EvC -/
namespace Go.Proofs.Ytjoalcaooccbiaa
open Go.RowKit VecM
namespace Ev
def LoopWp (P : Program) (c : Code) (Q : Exit → Act → World → Prop) (a : Act) (w : World) : Prop :=
 ∀ (b : Frame) (k : List Item) (cs : List Frame), ∃ e a' w', Q e a' w' ∧ Arrives P (lone (b.at a (.code c :: .inLoop c :: k)) cs w) b k cs e a' w'
theorem loop_of {P : Program} {c : Code} {Q : Exit → Act → World → Prop} {a : Act} {w : World} (h : LoopWp P c Q a w) : (Code.loop c).wp P Q a w := fun b k cs =>
 let ⟨e, a', w', hq, ha⟩ := h b k cs
 ⟨e, a', w', hq, .of_steps (.one step_loop) ha⟩
theorem loop_round {P : Program} {c : Code} {Q : Exit → Act → World → Prop} {a : Act} {w : World} (h : c.wp P (Exit.then (LoopWp P c Q) Q) a w) : LoopWp P c Q a w := by
 intro b k cs
 obtain ⟨e, a₁, w₁, hq, harr⟩ := h b (.inLoop c :: k) cs
 cases e with
 | normal =>
  obtain ⟨e₂, a₂, w₂, hq₂, harr₂⟩ := hq b k cs
  exact ⟨e₂, a₂, w₂, hq₂, .of_steps (Steps.trans harr (.one step_inLoop)) harr₂⟩
 | exit id => exact ⟨_, a₁, w₁, hq, .pass (x := .inLoop c) rfl (fun _ _ => .inl (by simp)) harr⟩
 | goto l => exact ⟨_, a₁, w₁, hq, .pass (x := .inLoop c) rfl (fun _ _ => .inl (by simp)) harr⟩
 | ret => exact ⟨_, a₁, w₁, hq, .pass (x := .inLoop c) rfl (fun _ _ => .inl (by simp)) harr⟩
 | panic ch => exact ⟨_, a₁, w₁, hq, .pass (x := .inLoop c) rfl (fun _ _ => .inl (by simp)) harr⟩
 | outgrown => exact ⟨_, a₁, w₁, hq, .pass (x := .inLoop c) rfl (fun _ _ => .inl (by simp)) harr⟩
def wpX (P : Program) (c : Code) (Q : Exit → Act → World → Prop) (a : Act) (w : World) : Prop :=
 match c with
 | .loop body => LoopWp P body Q a w
 | c => c.wp P Q a w
theorem wpX_wp {P : Program} {c : Code} {Q : Exit → Act → World → Prop} {a : Act} {w : World} (h : wpX P c Q a w) : c.wp P Q a w := by
 unfold wpX at h
 split at h
 ·exact loop_of h
 ·exact h
theorem wpX_of {P : Program} {c : Code} {Q : Exit → Act → World → Prop} {a : Act} {w : World} (hc : ∀ body, c ≠ .loop body) (h : c.wp P Q a w) : wpX P c Q a w := by
 unfold wpX
 split
 ·exact absurd rfl (hc _)
 ·exact h
def KeepC (K : CodeK) : Prop := ∀ e T s, Kp s.acc (K e T s)
def CodeKp (ev : CodeE) : Prop := ∀ c T s K, KeepC K → Kp s.acc (ev c T s K)
abbrev kC (K : (Nat → Fr) → CodeK) : (Nat → Fr) → KK (Exit × Tm) := fun β p s => K β p.1 p.2 s
def CodeOk (ev : (Nat → Fr) → CodeE) : Prop :=
 ∀ (w0 : World) (c : Code) (γ : Nat → Fr) (n : Nat) (h : List It) (M : List Rw) (A : (Nat → Fr) → List It) (T : Tm) (w : World) (K : (Nat → Fr) → CodeK) (Q : Exit → Act → World → Prop), (∀ β, KeepC (K β)) → SG w0 M w →
  (∀ β, Ag n β γ → good (ev β c T ⟨n, h, M, A β⟩ (K β))) → (∀ e T' w', On w0 n γ (kC K) (e, T') w' → Q e ⟨T'.toArray, []⟩ w') → wpX Try.prog c Q ⟨T.toArray, []⟩ w
theorem fill_ex : ∀ (l : List Value) (i : Nat) (T : Tm), ∃ T' : Tm, (∀ k, fillT i l T k = k T') ∧ T'.toArray.size = T.toArray.size ∧ ∀ j, T'.toArray[j]? = if i ≤ j ∧ j < i + l.length ∧ j < T.toArray.size then l[j - i]? else T.toArray[j]? := by
 intro l
 induction l with
 | nil => exact fun i T => ⟨T, fun _ => rfl, rfl, fun j => by rw [if_neg (by simp; omega)]⟩
 | cons v l ih =>
  intro i T
  obtain ⟨T1, h1, h2⟩ := tput_ex T i v
  obtain ⟨T2, h3, h4, h5⟩ := ih (i + 1) T1
  have hs : T1.toArray.size = T.toArray.size := by rw [h2]; simp
  refine ⟨T2, fun k => ?_, h4.trans hs, fun j => ?_⟩
  ·show tputK T i v (fun T => fillT (i + 1) l T k) = _
   rw [h1, h3]
  ·rw [h5, hs, h2]
   simp only [List.length_cons]
   by_cases hj : i + 1 ≤ j ∧ j < i + 1 + l.length ∧ j < T.toArray.size
   ·rw [if_pos hj, if_pos (by omega)]
    have : j - i = (j - (i + 1)) + 1 := by omega
    rw [this]
    simp
   ·rw [if_neg hj]
    by_cases hji : j = i
    ·subst hji
     by_cases hlt : j < T.toArray.size
     ·rw [if_pos (by omega)]
      simp [hlt]
     ·rw [if_neg (by omega)]
      simp [hlt]
    ·rw [if_neg (by omega)]
     simp [Ne.symm hji]
theorem getR_e (i : Nat) : getR .e i = undef := rfl
theorem fill_T (args : List Value) (n : Nat) (h : max n args.length ≤ 4000) : ∃ T' : Tm, (∀ k, fillT 0 args ⟨max n args.length, .e, h⟩ k = k T') ∧ T'.toArray = args.toArray ++ Array.replicate (n - args.toArray.size) undef := by
 obtain ⟨T', h1, h2, h3⟩ := fill_ex args 0 ⟨max n args.length, .e, h⟩
 have hs : (Tm.toArray ⟨max n args.length, .e, h⟩).size = max n args.length := by simp [Tm.toArray]
 refine ⟨T', h1, ?_⟩
 apply Array.ext_getElem?
 intro j
 rw [h3, hs]
 simp only [Nat.zero_le, true_and, Nat.zero_add, Nat.sub_zero]
 by_cases hj : j < args.length
 ·rw [if_pos (by omega)]
  simp [Array.getElem?_append, hj]
 ·rw [if_neg (by omega)]
  simp only [Tm.toArray, Array.getElem?_append, List.size_toArray, hj, if_false, List.getElem?_toArray, List.getElem?_map, Array.getElem?_replicate]
  by_cases hn : j < max n args.length
  ·simp [hn, getR_e]
   omega
  ·simp [hn]
   omega
theorem runE_kp {E : Env} {ev : CodeE} (h : CodeKp ev) : RunKp (runE E .check ev) := by
 intro f args s k hk
 unfold runE
 split
 ·exact .err
 ·split
  ·exact .err
  ·split
   ·exact .err
   ·rename_i hn _
    obtain ⟨T', h1, _⟩ := fill_T args _ hn
    rw [h1]
    refine h _ _ _ _ fun e T s => ?_
    split
    ·exact evR_kp hk _ _ _
    ·exact evR_kp hk _ _ _
    ·exact .err
theorem runE_ok {E : Env} (hP : E.P = Try.prog) {ev : (Nat → Fr) → CodeE} (h : CodeOk ev) : RunOk (fun β => runE E .check (ev β)) := by
 intro w0 w f args γ n hh M A K hk hS hg
 cases hf : E.P.funcs[f]? with
 | none =>
  have h0 := hg γ .refl
  unfold runE at h0
  simp only [hf] at h0
  exact absurd h0 not_good
 | some fn =>
  cases hb : fn.body with
  | none =>
   have h0 := hg γ .refl
   unfold runE at h0
   simp only [hf, hb] at h0
   exact absurd h0 not_good
  | some c =>
   cases hd : Nat.decLe (max fn.ntmps args.length) 4000 with
   | isFalse hd' =>
    have h0 := hg γ .refl
    unfold runE at h0
    simp only [hf, hb, hd] at h0
    exact absurd h0 not_good
   | isTrue hd' =>
    obtain ⟨T0, hT1, hT2⟩ := fill_T args fn.ntmps hd'
    let K2 : (Nat → Fr) → CodeK := fun β e T s => match e with
     | .normal => evR E.P .check fn.results.toList T s [] (K β)
     | .ret => evR E.P .check fn.results.toList T s [] (K β)
     | _ => .error 53
    have hk2 : ∀ β, KeepC (K2 β) := fun β e T s => by
     show Kp s.acc (match e with | .normal => _ | .ret => _ | _ => _)
     split
     ·exact evR_kp (hk β) _ _ _
     ·exact evR_kp (hk β) _ _ _
     ·exact .err
    have hg2 : ∀ β, Ag n β γ → good (ev β c T0 ⟨n, hh, M, A β⟩ (K2 β)) := fun β hβ => by
     have := hg β hβ
     unfold runE at this
     simp only [hf, hb, hd, hT1] at this
     exact this
    refine calls_of_wp (hP ▸ hf) hb ?_
    rw [← hT2]
    refine wpX_wp (h w0 c γ n hh M A _ w K2 _ hk2 hS hg2 fun e T' w' hon => ?_)
    have key : ∀ e', (e' = .normal ∨ e' = .ret) → On w0 n γ (kC K2) (e', T') w' → ∃ v, (results fn T'.toArray).run Try.prog w' = .ok v w' ∧ ∃ v', Ending.returned v = .returned v' ∧ On w0 n γ K v' w' := by
     intro e' he' ⟨γ', n', h', M', A', hS', hle, hag, hgd⟩
     have hgd' : ∀ β, Ag n' β γ' → good (evR E.P .check fn.results.toList T' ⟨n', h', M', A' β⟩ [] (K β)) := fun β hβ => by
      have := hgd β hβ
      rcases he' with rfl | rfl <;> exact this
     obtain ⟨vs, h2, hrun, hE⟩ := evR_ok (hk γ') _ _ _ hS' (hgd' γ' .refl)
     rw [hP] at hrun
     refine ⟨tupV vs, ?_, tupV vs, rfl, γ', n', h2, M', fun β => Classical.choose (hE (A' β)), hS', hle, hag, fun β hβ => ?_⟩
     ·rw [results_list]
      simp [hrun]
     ·have h3 := (Classical.choose_spec (hE (A' β))).2 (K β)
      have h4 := hgd' β hβ
      rw [h3] at h4
      exact h4
    cases e with
    | normal =>
     obtain ⟨v, h1, h2⟩ := key .normal (.inl rfl) hon
     exact ⟨rfl, v, h1, h2⟩
    | ret =>
     obtain ⟨v, h1, h2⟩ := key .ret (.inr rfl) hon
     exact ⟨rfl, v, h1, h2⟩
    | _ =>
     obtain ⟨γ', n', h', M', A', hS', hle, hag, hgd⟩ := hon
     exact absurd (hgd γ' .refl) not_good
theorem smAll_more {ops : Array Oper} {js : List Nat} (h : smAllB ops [] = true) (h1 : js.Nodup) (h2 : ∀ j ∈ js, j < ops.size) : smAllB ops js = true := by
 simp only [smAllB, Bool.and_eq_true, decide_eq_true_eq] at h ⊢
 exact ⟨⟨h.1.1, h1⟩, List.all_eq_true.2 fun j hj => by simpa using h2 j hj⟩
theorem smAny_more {ops : Array Oper} {js : List Nat} (h : smAnyB ops [] = true) (h1 : js.Nodup) (h2 : ∀ j ∈ js, j < ops.size) : smAnyB ops js = true := by
 simp only [smAnyB, Bool.and_eq_true, decide_eq_true_eq] at h ⊢
 exact ⟨⟨h.1.1, h1⟩, List.all_eq_true.2 fun j hj => by simpa using h2 j hj⟩
theorem sm_more {ops : Array Oper} {n : Nat} {js : List Nat} (h : smB ops n [] = true) (h1 : js.Nodup) (h2 : ∀ j ∈ js, j < n) : smB ops n js = true := by
 simp only [smB, Bool.and_eq_true, decide_eq_true_eq] at h ⊢
 exact ⟨⟨h.1.1, h1⟩, List.all_eq_true.2 fun j hj => by simpa using h2 j hj⟩
theorem draw_ok {E : Env} (hP : E.P = Try.prog) (hs : SumOk E) (hop : OphOk E) {run : (Nat → Fr) → CallE} (hkp : ∀ β, RunKp (run β)) (hr : RunOk run) {w0 w : World} {id : Nat} {l : List Oper} {Q : Exit → Act → World → Prop} {K : (Nat → Fr) → KK Tm} (hk : ∀ β, KeepK (K β)) {rm : Region.Mode} (hrm : drawK l (headN l) = some rm)
  {γ : Nat → Fr} {n : Nat} {h : List It} {M : List Rw} {A : (Nat → Fr) → List It} {T : Tm} (hS : SG w0 M w)
  (hg : ∀ β, Ag n β γ → good (evD E rm .check β (run β) l (l.take (headN l)) 0 T ⟨n, h, M, A β⟩ [] fun T s => evO E .check β (run β) l (l.drop (headN l)) T s (K β)))
  (hQ : ∀ T' w', On w0 n γ K T' w' → Q .normal ⟨T'.toArray, []⟩ w') (hm : (Try.prog).follows .mixedOrders = true) : (Code.region id l.toArray true).wp Try.prog Q ⟨T.toArray, []⟩ w := by
 have hnd := planL_nodup (P := E.P) (l.take (headN l)) 0 h
 have hge := planL_ge (P := E.P) (l.take (headN l)) 0 h
 generalize hls : planL E.P (l.take (headN l)) 0 h = ls at hnd hge
 have hlen : (l.take (headN l)).length ≤ headN l ∧ (l.take (headN l)).length ≤ l.length := by simp; omega
 have hlt : ∀ j ∈ ls.map (·.1), j < headN l ∧ j < l.length := fun j hj => by
  obtain ⟨x, hx, rfl⟩ := List.mem_map.1 hj
  have := hge x hx
  omega
 have hk2 : ∀ β, KeepK fun T s => evO E .check β (run β) l (l.drop (headN l)) T s (K β) := fun β T s => evO_kp (hkp β) (hk β) _ T s
 have main : ∀ (Q' : Exit → Act → World → Prop), (∀ a w, Q .normal a w → Q' .normal a w) → ∀ βr : Nat → Fr, Sn.wpTxt Try.prog rm l.toArray w0 (ents M) (Sn.layL ls) βr (fun a' => ∀ w', St w0 (Sn.rowsOf (Sn.layL ls) βr (ls.map (·.1)) ++ ents M) w' → wpList Try.prog l.toArray Q' (l.drop (headN l)) a' w') 0 (l.take (headN l)) ⟨T.toArray, []⟩ := by
  intro Q' hQ' βr
  refine evD_ok hP hs hop hkp hr hnd hS.2 βr hk2 (l.take (headN l)) 0 γ n h A T [] (by rw [hls]; rfl) (fun _ h => (by cases h)) hg fun T' γ' n' h' A' hle hag hgd w' hw' => ?_
  have hS' : SG w0 ((ls.map (rowL βr)).map (·.2) ++ M) w' := by
   refine ⟨?_, fun r hr ho => ?_⟩
   ·rw [ents_append, ← rows_of hnd βr ls (fun _ h => h)]
    exact hw'
   ·rcases List.mem_append.1 hr with hr | hr
    ·obtain ⟨x, hx, rfl⟩ := List.mem_map.1 hr
     obtain ⟨y, _, rfl⟩ := List.mem_map.1 hx
     cases ho
    ·exact hS.2 r hr ho
  exact evO_ok hP hs hop hkp hr hk (l.drop (headN l)) γ' n' h' _ A' T' w' hS' hgd fun T'' w'' hon => hQ' _ _ (hQ T'' w'' (hon.le hle hag))
 unfold drawK at hrm
 split at hrm
 ·split at hrm
  ·rename_i hb
   cases hrm
   exact Sn.sn_tail (headN l) ls hS.1 hm (sm_more hb hnd fun j hj => (hlt j hj).1) (main (onlyN Q) fun _ _ h => h)
  ·cases hrm
 ·rename_i hlt'
  have hall : headN l = l.length ∨ l.length ≤ headN l := by
   have : ¬ headN l < l.length := fun h => by
    have : Nat.blt (headN l) l.length = true := by unfold Nat.blt; exact Nat.ble_eq_true_of_le (by omega)
    rw [this] at hlt'
    cases hlt'
   omega
  have ht : l.take (headN l) = l := List.take_of_length_le (by omega)
  have hd : l.drop (headN l) = [] := List.drop_eq_nil_of_le (by omega)
  split at hrm
  ·rename_i hb
   cases hrm
   have := main Q fun _ _ h => h
   rw [ht, hd] at this
   exact Sn.sn_all ls hS.1 hm (smAll_more hb hnd fun j hj => by simpa using (hlt j hj).2) this
  ·split at hrm
   ·rename_i hb
    cases hrm
    have := main Q fun _ _ h => h
    rw [ht, hd] at this
    exact Sn.sn_allA ls hS.1 hm (smAny_more hb hnd fun j hj => by simpa using (hlt j hj).2) this
   ·cases hrm
noncomputable def putsL : List (Nat × Value) → Tm → Tm
 | [], T => T
 | (i, v) :: l, T => putsL l (Classical.choose (tput_ex T i v))
theorem putsT_eq : ∀ (l : List (Nat × Value)) (T : Tm) (k : Tm → Out), putsT l T k = k (putsL l T) := by
 intro l
 induction l with
 | nil => exact fun T k => rfl
 | cons p l ih =>
  obtain ⟨i, v⟩ := p
  intro T k
  show tputK T i v (fun T => putsT l T k) = _
  rw [(Classical.choose_spec (tput_ex T i v)).1, ih]
  rfl
def HolesOk (E : Env) : Prop := ∀ id body T M H, E.hole id body T M = some H → T.n = H.n → (∀ p ∈ H.need, tget T p.1 = p.2) → M = H.rows → (∀ b ∈ H.pre, b = true) → ∀ (w0 w : World) (Q : Exit → Act → World → Prop), SG w0 M w →
 (∀ ξ w', SG w0 (H.post H.test ξ).2.2 w' → Q (H.post H.test ξ).1 ⟨(putsL (H.post H.test ξ).2.1 T).toArray, []⟩ w') → H.code.wp Try.prog Q ⟨T.toArray, []⟩ w
theorem no_holes {E : Env} (h : E.hole = fun _ _ _ _ => none) : HolesOk E := fun _ _ _ _ _ hq => by rw [h] at hq; cases hq
noncomputable def kHole (H : Hole) (β : Nat → Fr) (T : Tm) (K : CodeK) (s : Sg) : Out := pickCon .check H.test s fun b s =>
 K (H.post b (β s.n).x).1 (putsL (H.post b (β s.n).x).2.1 T) ⟨s.n + 1, s.h, (H.post b (β s.n).x).2.2, s.acc⟩
theorem kHole_kp {H : Hole} {β : Nat → Fr} {T : Tm} {K : CodeK} (hK : KeepC K) (s : Sg) : Kp s.acc (kHole H β T K s) :=
 pickCon_kp fun _b s => hK _ _ ⟨s.n + 1, s.h, _, s.acc⟩
theorem stepC_hole {E : Env} {β : Nat → Fr} {ih : CodeE} {id : Nat} {x : Code} {T : Tm} {s : Sg} {K : CodeK} {H : Hole} (hq : E.hole id x T s.M = some H) :
  stepC E .check β ih (.block id x) T s K = (match Nat.beq T.n H.n with | true => pickPs .check H.pre ⟨s.n, s.h, s.M, needE T H.need (.eqv (encM s.M) (encM H.rows) :: .cod (.block id x) H.code :: s.acc)⟩ (kHole H β T K) | false => .error 93) := by
 have e : (fun s => pickCon .check H.test s fun b s => putsT (H.post b (β s.n).x).2.1 T fun T => K (H.post b (β s.n).x).1 T ⟨s.n + 1, s.h, (H.post b (β s.n).x).2.2, s.acc⟩) = kHole H β T K := by
  funext s
  simp only [putsT_eq]
  rfl
 rw [← e]
 unfold stepC
 simp only [hq]
 rfl
theorem stepC_kp {E : Env} {β : Nat → Fr} {ih : CodeE} (hih : CodeKp ih) : CodeKp (stepC E .check β ih) := by
 intro c T s K hK
 have hr := runE_kp (E := E) hih
 unfold stepC
 split
 ·exact hK _ _ _
 ·split
  ·exact evO_kp hr (fun T s => hK _ T s) _ _ _
  ·split
   ·exact evD_kp hr (fun T s => evO_kp hr (fun T s => hK _ T s) _ T s) _ _ _ _ _
   ·exact .err
 ·refine hih _ _ _ _ fun e T s => ?_
  split
  ·exact hih _ _ _ _ hK
  ·exact hK _ _ _
 ·split
  ·refine pickCon_kp fun b s => ?_
   split
   ·exact hih _ _ _ _ hK
   ·exact hih _ _ _ _ hK
  ·exact .err
 ·rename_i id x
  cases hq : E.hole id x T s.M with
  | some H =>
   have e := stepC_hole (β := β) (ih := ih) (K := K) hq
   unfold stepC at e
   simp only [hq] at e
   simp only
   rw [e]
   split
   ·exact (pickPs_kp (kHole_kp hK) H.pre ⟨s.n, s.h, s.M, _⟩).sub fun y hy => needE_sub T H.need _ (List.mem_cons_of_mem _ (List.mem_cons_of_mem _ hy))
   ·exact .err
  | none =>
   simp only
   refine hih _ _ _ _ fun e T s => ?_
   split
   ·split
    ·exact hK _ _ _
    ·exact hK _ _ _
   ·exact hK _ _ _
 ·refine hih _ _ _ _ fun e T s => ?_
  split
  ·exact hih _ _ _ _ hK
  ·exact hK _ _ _
 ·exact hK _ _ _
 ·exact hK _ _ _
 ·exact .err
theorem evC_kp (E : Env) (β : Nat → Fr) : ∀ fuel, CodeKp (evC E .check β fuel) := by
 intro fuel
 induction fuel with
 | zero => exact fun _ _ _ _ _ => .err
 | succ f ih => exact stepC_kp ih
noncomputable def kSeq (ih : CodeE) (b : Code) (K : CodeK) : CodeK := fun e T s => match e with
 | .normal => ih b T s K
 | e => K e T s
noncomputable def kBlk (id : Nat) (K : CodeK) : CodeK := fun e T s => match e with
 | .exit j => match Nat.beq j id with
  | true => K .normal T s
  | false => K (.exit j) T s
 | e => K e T s
theorem kSeq_kp {ih : CodeE} {b : Code} {K : CodeK} (h : CodeKp ih) (hK : KeepC K) : KeepC (kSeq ih b K) := fun e T s => by
 unfold kSeq
 split
 ·exact h _ _ _ _ hK
 ·exact hK _ _ _
theorem kBlk_kp {id : Nat} {K : CodeK} (hK : KeepC K) : KeepC (kBlk id K) := fun e T s => by
 unfold kBlk
 split
 ·split
  ·exact hK _ _ _
  ·exact hK _ _ _
 ·exact hK _ _ _
theorem On.map {α α' : Type} {w0 : World} {n : Nat} {γ : Nat → Fr} {K : (Nat → Fr) → KK α} {K' : (Nat → Fr) → KK α'} {a : α} {a' : α'} {w : World} (h : On w0 n γ K a w) (e : ∀ β s, K β a s = K' β a' s) : On w0 n γ K' a' w := by
 obtain ⟨γ', n', h', M, A, hS, hle, hag, hgd⟩ := h
 exact ⟨γ', n', h', M, A, hS, hle, hag, fun β hβ => e β _ ▸ hgd β hβ⟩
theorem evC_ok {E : Env} (hP : E.P = Try.prog) (hs : SumOk E) (hh : HolesOk E) (ho : OphOk E) (hm : (Try.prog).follows .mixedOrders = true) : ∀ fuel, CodeOk fun β => evC E .check β fuel := by
 intro fuel
 induction fuel with
 | zero => exact fun w0 c γ n h M A T w K Q hk hS hg hQ => absurd (hg γ .refl) not_good
 | succ f ih =>
  intro w0 c γ n h M A T w K Q hk hS hg hQ
  have hkc : ∀ β, CodeKp (evC E .check β f) := fun β => evC_kp E β f
  have hkp : ∀ β, RunKp (runE E .check (evC E .check β f)) := fun β => runE_kp (hkc β)
  have hr : RunOk fun β => runE E .check (evC E .check β f) := runE_ok hP ih
  have hg : ∀ β, Ag n β γ → good (stepC E .check β (evC E .check β f) c T ⟨n, h, M, A β⟩ (K β)) := hg
  have here : ∀ e T', (∀ β, Ag n β γ → good (K β e T' ⟨n, h, M, A β⟩)) → Q e ⟨T'.toArray, []⟩ w := fun e T' hgd => hQ e T' w ⟨γ, n, h, M, A, hS, Nat.le_refl _, .refl, hgd⟩
  cases c with
  | skip => exact wpX_of (fun _ h => by cases h) (wp_skip (here _ _ hg))
  | region id ops draw =>
   refine wpX_of (fun _ h => by cases h) ?_
   cases draw with
   | false =>
    have h2 := evO_ok (Q := Q) hP hs ho hkp hr (K := fun β T s => K β .normal T s) (all := ops.toList) (fun β T s => hk β _ T s) ops.toList γ n h M A T w hS hg fun T' w' hon => hQ _ _ _ (hon.map fun _ _ => rfl)
    have h3 := wp_region_lit (id := id) h2
    simpa using h3
   | true =>
    have e : ∀ β, stepC E .check β (evC E .check β f) (.region id ops true) T ⟨n, h, M, A β⟩ (K β) = (match drawK ops.toList (headN ops.toList) with
     | some rm => evD E rm .check β (runE E .check (evC E .check β f)) ops.toList (ops.toList.take (headN ops.toList)) 0 T ⟨n, h, M, A β⟩ [] fun T s =>
      evO E .check β (runE E .check (evC E .check β f)) ops.toList (ops.toList.drop (headN ops.toList)) T s fun T s => K β .normal T s
     | none => .error 57) := fun β => rfl
    cases hd : drawK ops.toList (headN ops.toList) with
    | none =>
     have h0 := hg γ .refl
     rw [e, hd] at h0
     exact absurd h0 not_good
    | some rm =>
     have h2 := draw_ok (Q := Q) (id := id) hP hs ho hkp hr (K := fun β T s => K β .normal T s) (l := ops.toList) (fun β T s => hk β _ T s) hd hS (fun β hβ => by
      have h1 := hg β hβ
      rw [e, hd] at h1
      exact h1) (fun T' w' hon => hQ _ _ _ (hon.map fun _ _ => rfl)) hm
     simpa using h2
  | seq x y =>
   refine wpX_of (fun _ h => by cases h) (wp_seq (wpX_wp (ih w0 x γ n h M A T w (fun β => kSeq (evC E .check β f) y (K β)) _ (fun β => kSeq_kp (hkc β) (hk β)) hS (fun β hβ => ?_) fun e T' w' hon => ?_)))
   ·have h1 := hg β hβ
    exact h1
   ·cases e with
    | normal =>
     obtain ⟨γ', n', h', M', A', hS', hle, hag, hgd⟩ := hon
     exact wpX_wp (ih w0 y γ' n' h' M' A' T' w' K Q hk hS' hgd fun e T'' w'' hon => hQ e T'' w'' (hon.le hle hag))
    | _ => exact hQ _ _ _ (hon.map fun _ _ => rfl)
  | cond c x y =>
   refine wpX_of (fun _ h => by cases h) ?_
   have h0 := hg γ .refl
   cases hc : evalT T c with
   | bool b =>
    have e : ∀ β, stepC E .check β (evC E .check β f) (.cond c x y) T ⟨n, h, M, A β⟩ (K β) = pickCon .check b ⟨n, h, M, A β⟩ fun b s => match b with
     | true => evC E .check β f x T s (K β)
     | false => evC E .check β f y T s (K β) := fun β => by
      unfold stepC
      simp only [hc]
      rfl
    have hkb : ∀ β, ∀ b s, Kp s.acc ((fun (b : Bool) (s : Sg) => (match b with
     | true => evC E .check β f x T s (K β)
     | false => evC E .check β f y T s (K β) : Out)) b s) := fun β b s => by
      cases b
      ·exact hkc β _ _ _ _ (hk β)
      ·exact hkc β _ _ _ _ (hk β)
    rw [e] at h0
    obtain ⟨b', h', hb, hE⟩ := pickCon_inv (hkb γ) h0
    have hcond : (⟨T.toArray, []⟩ : Act).eval c = .bool b' := by rw [eval_T, hc, hb]
    refine wp_cond hcond ?_
    cases b' with
    | true =>
     refine wpX_wp (ih w0 x γ n h' M (fun β => .con b true :: A β) T w K Q hk hS (fun β hβ => ?_) hQ)
     have h1 := hg β hβ
     rw [e, hE] at h1
     exact h1
    | false =>
     refine wpX_wp (ih w0 y γ n h' M (fun β => .con b false :: A β) T w K Q hk hS (fun β hβ => ?_) hQ)
     have h1 := hg β hβ
     rw [e, hE] at h1
     exact h1
   | _ =>
    unfold stepC at h0
    simp only [hc] at h0
    exact absurd h0 not_good
  | block id x =>
   cases hq : E.hole id x T M with
   | some H =>
    have e : ∀ β, stepC E .check β (evC E .check β f) (.block id x) T ⟨n, h, M, A β⟩ (K β) = _ := fun β => stepC_hole (s := ⟨n, h, M, A β⟩) hq
    cases hn : Nat.beq T.n H.n with
    | false =>
     have h0 := hg γ .refl
     rw [e, hn] at h0
     exact absurd h0 not_good
    | true =>
     have hg1 : ∀ β, Ag n β γ → good (pickPs .check H.pre ⟨n, h, M, needE T H.need (.eqv (encM M) (encM H.rows) :: .cod (.block id x) H.code :: A β)⟩ (kHole H β T (K β))) := fun β hβ => by
      have h1 := hg β hβ
      rw [e, hn] at h1
      exact h1
     have hk1 : ∀ β, ∀ s, Kp s.acc (kHole H β T (K β) s) := fun β => kHole_kp (hk β)
     have hall : ∀ y ∈ needE T H.need (.eqv (encM M) (encM H.rows) :: .cod (.block id x) H.code :: A γ), y.l = y.r := by
      obtain ⟨l, hl, hgl⟩ := hg1 γ .refl
      exact pickPs_kp (hk1 γ) _ ⟨n, h, M, _⟩ l hl hgl
     have hcode : Code.block id x = H.code := by
      have := hall _ (needE_sub T _ _ (List.mem_cons_of_mem _ (List.mem_cons_self ..)))
      simpa [It.l, It.r] using this
     have hrows : M = H.rows := by
      have := hall _ (needE_sub T _ _ (List.mem_cons_self ..))
      exact encM_inj (by simpa [It.l, It.r] using this)
     have hneed : ∀ p ∈ H.need, tget T p.1 = p.2 := fun p hp => by
      have := hall _ (needE_mem T _ _ p hp)
      simpa [It.l, It.r] using this
     obtain ⟨hpre, h2, hE⟩ := pickPs_inv (hk1 γ) _ _ (hg1 γ .refl)
     obtain ⟨B, hB⟩ : ∃ B : (Nat → Fr) → List It, ∀ β k', pickPs .check H.pre ⟨n, h, M, needE T H.need (.eqv (encM M) (encM H.rows) :: .cod (.block id x) H.code :: A β)⟩ k' = k' ⟨n, h2, M, B β⟩ :=
      ⟨fun β => Classical.choose (hE (needE T H.need (.eqv (encM M) (encM H.rows) :: .cod (.block id x) H.code :: A β))), fun β => (Classical.choose_spec (hE (needE T H.need (.eqv (encM M) (encM H.rows) :: .cod (.block id x) H.code :: A β)))).2⟩
     have hg2 : ∀ β, Ag n β γ → good (kHole H β T (K β) ⟨n, h2, M, B β⟩) := fun β hβ => by
      have := hg1 β hβ
      rw [hB] at this
      exact this
     have hkc : ∀ β, ∀ (b : Bool) (s : Sg), Kp s.acc (K β (H.post b (β s.n).x).1 (putsL (H.post b (β s.n).x).2.1 T) ⟨s.n + 1, s.h, (H.post b (β s.n).x).2.2, s.acc⟩) := fun β b s => hk β _ _ ⟨s.n + 1, s.h, _, s.acc⟩
     obtain ⟨b, h3, hb, hE3⟩ := pickCon_inv (hkc γ) (hg2 γ .refl)
     rw [hcode]
     refine wpX_of (fun _ h => by rw [← hcode] at h; cases h) (hh id x T M H hq (Nat.eq_of_beq_eq_true hn) hneed hrows hpre w0 w Q hS fun ξ w' hS' => ?_)
     refine hQ _ _ _ ⟨upN γ n ⟨0, ξ, []⟩, n + 1, h3, _, fun β => .con H.test b :: B β, hS', Nat.le_succ n, upN_ag _ _ _, fun β hβ => ?_⟩
     have hβ' := (hβ.le (Nat.le_succ n)).trans (upN_ag γ n ⟨0, ξ, []⟩)
     have hx : (β n).x = ξ := by rw [hβ n (Nat.lt_succ_self n), upN_at]
     have h4 := hg2 β hβ'
     unfold kHole at h4
     rw [hE3] at h4
     simp only [hx, ← hb] at h4
     rw [← hb]
     exact h4
   | none =>
   have en : ∀ β, stepC E .check β (evC E .check β f) (.block id x) T ⟨n, h, M, A β⟩ (K β) = evC E .check β f x T ⟨n, h, M, A β⟩ (kBlk id (K β)) := fun β => by
    unfold stepC
    simp only [hq]
    rfl
   refine wpX_of (fun _ h => by cases h) (wp_block (wpX_wp (ih w0 x γ n h M A T w (fun β => kBlk id (K β)) _ (fun β => kBlk_kp (hk β)) hS (fun β hβ => ?_) fun e T' w' hon => ?_)))
   ·have h1 := hg β hβ
    rw [en] at h1
    exact h1
   ·cases e with
    | exit j =>
     show if j = id then Q .normal _ _ else Q (.exit j) _ _
     split
     ·rename_i hj
      refine hQ _ _ _ (hon.map fun β s => ?_)
      show (match Nat.beq j id with | true => K β .normal T' s | false => K β (.exit j) T' s) = _
      rw [show Nat.beq j id = true by rw [hj]; exact Nat.beq_refl _]
     ·rename_i hj
      refine hQ _ _ _ (hon.map fun β s => ?_)
      show (match Nat.beq j id with | true => K β .normal T' s | false => K β (.exit j) T' s) = _
      rw [show Nat.beq j id = false by
       cases hq : Nat.beq j id with
       | false => rfl
       | true => exact absurd (Nat.eq_of_beq_eq_true hq) hj]
    | _ => exact hQ _ _ _ (hon.map fun _ _ => rfl)
  | loop x =>
   refine loop_round (wpX_wp (ih w0 x γ n h M A T w (fun β => kSeq (evC E .check β f) (.loop x) (K β)) _ (fun β => kSeq_kp (hkc β) (hk β)) hS (fun β hβ => ?_) fun e T' w' hon => ?_))
   ·have h1 := hg β hβ
    exact h1
   ·cases e with
    | normal =>
     obtain ⟨γ', n', h', M', A', hS', hle, hag, hgd⟩ := hon
     exact ih w0 (.loop x) γ' n' h' M' A' T' w' K Q hk hS' hgd fun e T'' w'' hon => hQ e T'' w'' (hon.le hle hag)
    | _ => exact hQ _ _ _ (hon.map fun _ _ => rfl)
  | exit id => exact wpX_of (fun _ h => by cases h) (wp_exit (here _ _ hg))
  | ret => exact wpX_of (fun _ h => by cases h) (wp_ret (here _ _ hg))
  | _ => exact absurd (hg γ .refl) not_good
theorem follows_mixed : (Try.prog).follows .mixedOrders = true := by kernel_rfl
theorem map_all : ∀ {l : List It}, l.map It.l = l.map It.r → ∀ x ∈ l, x.l = x.r := by
 intro l
 induction l with
 | nil => exact fun _ x hx => by cases hx
 | cons a l ih =>
  intro h x hx
  simp only [List.map_cons, List.cons.injEq] at h
  rcases List.mem_cons.1 hx with rfl | hx
  ·exact h.1
  ·exact ih h.2 x hx
theorem good_of {o : Out} (h : lhsO o = rhsO o) : good o := by
 unfold lhsO rhsO at h
 cases o with
 | ok l => exact ⟨l, rfl, map_all h⟩
 | error n => simp at h
theorem ev_calls {E : Env} (hP : E.P = Try.prog) (hs : SumOk E) (hh : HolesOk E) (ho : OphOk E) {fuel : Nat} {f : FuncId} {args : List Value} {v : Value} {hints : List It} (h : ∀ β : Nat → Fr, good (evF E .check β fuel f args ⟨0, hints, [], []⟩ fun r s => .ok (.eqv r v :: s.acc))) (w : World) :
  Calls Try.prog f args.toArray w fun e w' => e = .returned v ∧ Gr w w' := by
 have hk : ∀ _ : Nat → Fr, KeepK (fun (r : Value) (s : Sg) => (.ok (.eqv r v :: s.acc) : Out)) := fun _ r s l hl hg x hx => by cases hl; exact hg x (List.mem_cons_of_mem _ hx)
 have h1 := runE_ok (E := E) hP (evC_ok hP hs hh ho follows_mixed fuel) w w f args noB 0 hints [] (fun _ => []) (fun _ r s => .ok (.eqv r v :: s.acc)) hk ⟨St.start w, fun r hr => by cases hr⟩ (fun β _ => h β)
 refine h1.mono fun e w' ⟨r, he, γ', n', h', M', A', hS', _, _, hgd⟩ => ?_
 have h2 := good_ok.1 (hgd γ' .refl) _ (List.mem_cons_self ..)
 simp only [It.l, It.r, Lv.v.injEq] at h2
 exact ⟨h2 ▸ he, hS'.gr⟩
theorem ev_top {E : Env} (hP : E.P = Try.prog) (hs : SumOk E) {fuel : Nat} {f : FuncId} {args : List Value} {v : Value} (h : ∀ β : Nat → Fr, lhsO (evTop E fuel f args v β) = rhsO (evTop E fuel f args v β)) (w : World) (hh : HolesOk E := by exact no_holes rfl) (ho : OphOk E := by exact no_oph rfl rfl) :
  Calls Try.prog f args.toArray w fun e w' => e = .returned v ∧ Gr w w' := by
 cases hq : evF E .find noB fuel f args ⟨0, [], [], []⟩ fun _ s => .ok s.acc with
 | error e =>
  have := h noB
  unfold evTop at this
  rw [hq] at this
  simp [lhsO, rhsO] at this
 | ok l =>
  refine ev_calls hP hs hh ho (fuel := fuel) (hints := l.reverse) (fun β => ?_) w
  have := good_of (h β)
  unfold evTop at this
  rw [hq] at this
  exact this
theorem tag_all {D : List (Bool × Bool)} (hD : ∀ p ∈ D, p.1 = p.2) : ∀ {l : List It} {ts : List Nat}, tagL D l ts = tagR D l ts → ∀ x ∈ l, x.l = x.r := by
 intro l
 induction l with
 | nil => exact fun _ x hx => by cases hx
 | cons a l ih =>
  intro ts h x hx
  have step : ∀ {x : It} {ts' : List Nat}, x ∈ a :: l → a.l = a.r → tagL D l ts' = tagR D l ts' → x.l = x.r := fun hx h1 h2 => by
   rcases List.mem_cons.1 hx with rfl | hx
   ·exact h1
   ·exact ih h2 _ hx
  cases a with
  | con c b =>
   cases ts with
   | nil =>
    simp only [tagL, tagR, List.cons.injEq] at h
    exact step hx h.1 h.2
   | cons t ts =>
    cases t with
    | zero =>
     simp only [tagL, tagR, List.cons.injEq] at h
     exact step hx h.1 h.2
    | succ k =>
     simp only [tagL, tagR] at h
     cases hk : D[k]? with
     | none =>
      rw [hk] at h
      simp at h
     | some p =>
      obtain ⟨u, v⟩ := p
      rw [hk] at h
      simp only [List.cons.injEq, Lv.v.injEq, Value.bool.injEq] at h
      obtain ⟨h1, h2, h3⟩ := h
      have h4 := hD _ (List.mem_of_getElem? hk)
      exact step hx (by simp only [It.l, It.r, h1, h2]; exact congrArg (fun b => Lv.v (.bool b)) h4) h3
  | _ =>
   simp only [tagL, tagR, List.cons.injEq] at h
   exact step hx h.1 h.2
theorem good_tag {D : List (Bool × Bool)} (hD : ∀ p ∈ D, p.1 = p.2) (ts : List Nat) {o : Out} (h : tagOL D ts o = tagOR D ts o) : good o := by
 unfold tagOL tagOR at h
 cases o with
 | ok l => exact ⟨l, rfl, tag_all hD h⟩
 | error n => simp at h
theorem ev_path {E E' : Env} (hP : E.P = Try.prog) (hs : SumOk E) {fuel : Nat} {f : FuncId} {args args' : List Value} {v : Value} (D : List (Bool × Bool)) (ts : List Nat) (hD : ∀ p ∈ D, p.1 = p.2)
  (h : ∀ β : Nat → Fr, tagOL D ts (evPath E E' fuel f args args' v β) = tagOR D ts (evPath E E' fuel f args args' v β)) (w : World) (hh : HolesOk E := by exact no_holes rfl) (ho : OphOk E := by exact no_oph rfl rfl) :
  Calls Try.prog f args.toArray w fun e w' => e = .returned v ∧ Gr w w' :=
 ev_calls hP hs hh ho (fuel := fuel) (fun β => good_tag hD ts (h β)) w
def okE : Exit → Bool
 | .normal => true
 | .exit _ => true
 | .ret => true
 | _ => false
theorem encE_inj {e e' : Exit} (h : encE e = encE e') (ho : okE e' = true) : e = e' := by
 cases e' <;> cases e <;> simp_all [encE, okE, undef] <;> omega
theorem SG.drop {w0 w : World} {M : List Rw} (h : SG w0 M w) : ∀ k, SG w0 (M.drop k) w := by
 intro k
 induction k generalizing M with
 | zero => exact h
 | succ k ih => cases M with
  | nil => exact h
  | cons r M => exact ih ⟨by
    have h1 := h.1
    unfold ents at *
    rw [List.filter_cons] at h1
    split at h1
    ·exact h1.tail
    ·exact h1, fun r hr => h.2 r (List.mem_cons_of_mem _ hr)⟩
theorem ev_code {E E' : Env} (hP : E.P = Try.prog) (hs : SumOk E) {fuel : Nat} {c : Code} {vals vals' : List Value} {M M' : List Rw} {ex : Exit} {keep : List (Nat × Value)} {M1 : List Rw} (hex : okE ex = true) (D : List (Bool × Bool)) (ts : List Nat) (hD : ∀ p ∈ D, p.1 = p.2)
  (h : ∀ β : Nat → Fr, tagOL D ts (evCode E E' fuel c vals vals' M M' ex keep M1 β) = tagOR D ts (evCode E E' fuel c vals vals' M M' ex keep M1 β)) {w0 w : World} (hS : SG w0 M w) {Q : Exit → Act → World → Prop}
  (hQ : ∀ (T' : Tm) w', T'.n = vals.length → (∀ p ∈ keep, tget T' p.1 = p.2) → SG w0 M1 w' → Q ex ⟨T'.toArray, []⟩ w') (hh : HolesOk E := by exact no_holes rfl) (ho : OphOk E := by exact no_oph rfl rfl) : wpX Try.prog c Q ⟨vals.toArray, []⟩ w := by
 have h0 := good_tag hD ts (h noB)
 unfold evCode evCodeM at h0
 split at h0
 ·exact absurd h0 not_good
 ·rename_i hl hd
  obtain ⟨T0, hT1, hT2⟩ := fill_T vals vals.length hl
  have hT3 : T0.toArray = vals.toArray := by rw [hT2]; simp
  rw [← hT3]
  have hk : ∀ _ : Nat → Fr, KeepC (fun e T s => (.ok (needE T keep (.eqv (encE e) (encE ex) :: .eqv (encM (s.M.drop (s.M.length - M1.length))) (encM M1) :: .eqv (.int .u64 T.n) (.int .u64 vals.length) :: s.acc)) : Out)) := fun _ e T s l hl hg x hx => by
   cases hl
   exact hg x (needE_sub _ _ _ (List.mem_cons_of_mem _ (List.mem_cons_of_mem _ (List.mem_cons_of_mem _ hx))))
  refine evC_ok hP hs hh ho follows_mixed fuel w0 c noB 0 (evCodeHints E E' fuel c vals vals' M M') M (fun _ => []) T0 w _ Q hk hS (fun β _ => ?_) fun e T' w' ⟨γ', n', h', M2, A', hS', _, _, hgd⟩ => ?_
  ·have h1 := good_tag hD ts (h β)
   unfold evCode evCodeM at h1
   simp only [hd, hT1] at h1
   exact h1
  ·have h2 := good_ok.1 (hgd γ' .refl)
   have e1 := h2 _ (needE_sub _ _ _ (List.mem_cons_self ..))
   have e2 := h2 _ (needE_sub _ _ _ (List.mem_cons_of_mem _ (List.mem_cons_self ..)))
   have e3 := h2 _ (needE_sub _ _ _ (List.mem_cons_of_mem _ (List.mem_cons_of_mem _ (List.mem_cons_self ..))))
   simp only [It.l, It.r, Lv.v.injEq] at e1 e2 e3
   obtain rfl := encE_inj e1 hex
   simp only [Value.int.injEq, true_and] at e3
   refine hQ T' w' (by omega) (fun p hp => ?_) (encM_inj e2 ▸ hS'.drop _)
   have := h2 _ (needE_mem T' _ _ p hp)
   simpa [It.l, It.r] using this
theorem assoc_mem : ∀ {l : List (Nat × Value)} {i : Nat} {v : Value}, assocN l i = some v → (i, v) ∈ l := by
 intro l
 induction l with
 | nil => intro i v h; cases h
 | cons p l ih =>
  obtain ⟨j, u⟩ := p
  intro i v h
  unfold assocN at h
  split at h
  ·rename_i hb
   obtain rfl := Nat.eq_of_beq_eq_true hb
   cases h
   exact List.mem_cons_self ..
  ·exact List.mem_cons_of_mem _ (ih h)
theorem vals_eq {T : Tm} {n : Nat} (hn : T.n = n) {need : List (Nat × Value)} (h : ∀ p ∈ need, tget T p.1 = p.2) : T.toArray = (valsOf need (tget T) n).toArray := by
 subst hn
 unfold Tm.toArray valsOf
 congr 1
 refine List.map_congr_left fun i hi => ?_
 have hb : Nat.blt i T.n = true := (blt_iff _ _).2 (List.mem_range.1 hi)
 have e : tget T i = getR T.t i := by unfold tget; rw [hb]
 split
 ·rename_i v hv
  exact e.symm.trans (h _ (assoc_mem hv))
 ·exact e.symm
theorem tget_size {T : Tm} {i : Nat} (h : ¬ i < T.n) : tget T i = undef := by
 have hb : Nat.blt i T.n = false := by
  cases hq : Nat.blt i T.n with
  | false => rfl
  | true => exact absurd ((blt_iff _ _).1 hq) h
 unfold tget
 rw [hb]
theorem T_ext {T T' : Tm} (hn : T.n = T'.n) (h : ∀ i, i < T.n → tget T i = tget T' i) : T.toArray = T'.toArray := by
 unfold Tm.toArray
 rw [← hn]
 congr 1
 refine List.map_congr_left fun i hi => ?_
 have hi := List.mem_range.1 hi
 have hb : Nat.blt i T.n = true := (blt_iff _ _).2 hi
 have := h i hi
 unfold tget at this
 rw [← hn, hb] at this
 exact this
theorem size_n (T : Tm) : T.toArray.size = T.n := by simp [Tm.toArray]
theorem puts_get (g : Nat → Value) : ∀ (l : List Nat) (T : Tm), (putsL (l.map fun i => (i, g i)) T).n = T.n ∧ ∀ i, i < T.n → tget (putsL (l.map fun i => (i, g i)) T) i = if memN l i then g i else tget T i := by
 intro l
 induction l with
 | nil => exact fun T => ⟨rfl, fun i _ => by simp [memN, putsL]⟩
 | cons j l ih =>
  intro T
  have h2 := (Classical.choose_spec (tput_ex T j (g j))).2
  have hn : (Classical.choose (tput_ex T j (g j))).n = T.n := by rw [← size_n, h2]; simp [size_n]
  obtain ⟨h3, h4⟩ := ih (Classical.choose (tput_ex T j (g j)))
  refine ⟨h3.trans hn, fun i hi => ?_⟩
  have h5 := h4 i (by rw [hn]; exact hi)
  show tget (putsL (l.map fun i => (i, g i)) (Classical.choose (tput_ex T j (g j)))) i = _
  rw [h5, tget_eq, h2]
  have hm : memN (j :: l) i = (match Nat.beq j i with | true => true | false => memN l i) := rfl
  rw [hm]
  by_cases hji : j = i
  ·subst hji
   rw [Nat.beq_refl]
   have hs : j < T.toArray.size := by rw [size_n]; exact hi
   have : (T.toArray.setIfInBounds j (g j)).getD j undef = g j := by simp [Array.getD, hs]
   rw [this]
   simp
  ·have hb : Nat.beq j i = false := by
    cases hq : Nat.beq j i with
    | false => rfl
    | true => exact absurd (Nat.eq_of_beq_eq_true hq) hji
   rw [hb]
   have : (T.toArray.setIfInBounds j (g j)).getD i undef = tget T i := by
    rw [tget_eq]
    simp [Array.getD_eq_getD_getElem?, hji]
   rw [this]
theorem keep_mem {need : List (Nat × Value)} {g : Nat → Value} {n : Nat} {hav : List Nat} {i : Nat} (hi : i < n) (h : memN hav i = false) : (i, match assocN need i with | some v => v | none => g i) ∈ keepOf need g n hav :=
 List.mem_map.2 ⟨i, List.mem_filter.2 ⟨List.mem_range.2 hi, by rw [h]; rfl⟩, rfl⟩
theorem hole_T {T T' : Tm} {n : Nat} (hn : T.n = n) (hn' : T'.n = n) {need : List (Nat × Value)} (h : ∀ p ∈ need, tget T p.1 = p.2) {hav : List Nat} (hk : ∀ p ∈ keepOf need (tget T) n hav, tget T' p.1 = p.2) :
  T'.toArray = (putsL (hav.map fun i => (i, tget T' i)) T).toArray := by
 obtain ⟨h1, h2⟩ := puts_get (tget T') hav T
 refine T_ext (by omega) fun i hi => ?_
 rw [h2 i (by omega)]
 cases hm : memN hav i with
 | true => simp
 | false =>
  have := hk _ (keep_mem (need := need) (g := tget T) (n := n) (by omega) hm)
  simp only at this
  rw [this]
  simp only [Bool.false_eq_true, if_false]
  split
  ·rename_i v hv
   exact (h _ (assoc_mem hv)).symm
  ·rfl
noncomputable def bare : Env := { P := Try.prog, known := [], sum := fun _ _ => none }
theorem bare_ok : SumOk bare := fun _ _ _ _ h => by cases h
def eq16 (x y : Nat → Int) : Bool :=
 and (x 0 == y 0) (and (x 1 == y 1) (and (x 2 == y 2) (and (x 3 == y 3) (and (x 4 == y 4) (and (x 5 == y 5) (and (x 6 == y 6) (and (x 7 == y 7) (and (x 8 == y 8) (and (x 9 == y 9) (and (x 10 == y 10) (and (x 11 == y 11) (and (x 12 == y 12) (and (x 13 == y 13) (and (x 14 == y 14) (and (x 15 == y 15) true)))))))))))))))
theorem eq16_of {x y : Nat → Int} (h : ∀ m, m < 16 → x m = y m) : eq16 x y = true := by
 unfold eq16
 simp [h 0 (by decide), h 1 (by decide), h 2 (by decide), h 3 (by decide), h 4 (by decide), h 5 (by decide), h 6 (by decide), h 7 (by decide), h 8 (by decide), h 9 (by decide), h 10 (by decide), h 11 (by decide), h 12 (by decide), h 13 (by decide), h 14 (by decide), h 15 (by decide)]
end Ev
end Go.Proofs.Ytjoalcaooccbiaa
/- EvL -/
namespace Go.Proofs.Ytjoalcaooccbiaa
open Go.RowKit VecM
namespace Ev
def blkOf (id : Nat) : Code → Option Code
 | .block j c => match Nat.beq j id with
  | true => some (.block j c)
  | false => blkOf id c
 | .seq a b => match blkOf id a with
  | some c => some c
  | none => blkOf id b
 | .cond _ a b => match blkOf id a with
  | some c => some c
  | none => blkOf id b
 | .loop c => blkOf id c
 | _ => none
noncomputable def blkIn (f : FuncId) (id : Nat) : Code := ((Try.prog.funcs[f]?.bind (·.body)).bind (blkOf id)).getD .skip
noncomputable def loopIn (f : FuncId) (id : Nat) : Code := match blkIn f id with
 | .block _ (.loop c) => c
 | _ => .skip
theorem putsL_n : ∀ (l : List (Nat × Value)) (T : Tm), (putsL l T).n = T.n := by
 intro l
 induction l with
 | nil => exact fun T => rfl
 | cons p l ih =>
  intro T
  have h2 := (Classical.choose_spec (tput_ex T p.1 p.2)).2
  have hn : (Classical.choose (tput_ex T p.1 p.2)).n = T.n := by rw [← size_n, h2]; simp [size_n]
  exact (ih _).trans hn
theorem tget_put {T : Tm} {j i : Nat} {v : Value} (hj : j < T.n) : tget (Classical.choose (tput_ex T j v)) i = if i = j then v else tget T i := by
 have h2 := (Classical.choose_spec (tput_ex T j v)).2
 rw [tget_eq, h2, tget_eq]
 by_cases h : i = j
 ·subst h
  have hs : i < T.toArray.size := by rw [size_n]; exact hj
  simp [Array.getD, hs]
 ·rw [if_neg h]
  simp [Array.getD_eq_getD_getElem?, show ¬ j = i from fun e => h e.symm]
theorem putsL_same : ∀ (l : List (Nat × Value)) (T : Tm), (∀ p ∈ l, p.1 < T.n ∧ tget T p.1 = p.2) → ∀ i, tget (putsL l T) i = tget T i := by
 intro l
 induction l with
 | nil => exact fun T _ i => rfl
 | cons p l ih =>
  intro T h i
  have hp := h p (List.mem_cons_self ..)
  have hn : (Classical.choose (tput_ex T p.1 p.2)).n = T.n := putsL_n [p] T
  have hsame : ∀ i, tget (Classical.choose (tput_ex T p.1 p.2)) i = tget T i := fun i => by
   rw [tget_put hp.1]
   split
   ·rename_i e; rw [e, hp.2]
   ·rfl
  show tget (putsL l (Classical.choose (tput_ex T p.1 p.2))) i = _
  rw [ih _ (fun q hq => by rw [hn, hsame]; exact h q (List.mem_cons_of_mem _ hq)), hsame]
theorem putsL_app : ∀ (l l' : List (Nat × Value)) (T : Tm), putsL (l ++ l') T = putsL l' (putsL l T) := by
 intro l
 induction l with
 | nil => exact fun l' T => rfl
 | cons p l ih => exact fun l' T => ih l' _
def Runs (c : Code) (n : Nat) (need : List (Nat × Value)) (R : List Rw) (ex : Exit) (give : List (Nat × Value)) (hav : List Nat) (R1 : List Rw) : Prop :=
 ∀ (w0 w : World) (T : Tm) (Q : Exit → Act → World → Prop), T.n = n → (∀ p ∈ need, tget T p.1 = p.2) → SG w0 R w →
  (∀ (T' : Tm) w', T'.n = n → (∀ p ∈ give, tget T' p.1 = p.2) → (∀ i, i < n → memN hav i = false → tget T' i = tget T i) → SG w0 R1 w' → Q ex ⟨T'.toArray, []⟩ w') → wpX Try.prog c Q ⟨T.toArray, []⟩ w
theorem runs_code {E E' : Env} (hP : E.P = Try.prog) (hs : SumOk E) {fuel : Nat} {c : Code} {n : Nat} {need need' : List (Nat × Value)} {M M' : List Rw} {ex : Exit} {give : List (Nat × Value)} {hav : List Nat} {M1 : List Rw} (hex : okE ex = true) (D : List (Bool × Bool)) (ts : List Nat) (hD : ∀ p ∈ D, p.1 = p.2)
  (h : ∀ (g : Nat → Value) (β : Nat → Fr), tagOL D ts (evCode E E' fuel c (valsOf need g n) (valsOf need' (fun _ => undef) n) M M' ex (give ++ keepOf need g n hav) M1 β) = tagOR D ts (evCode E E' fuel c (valsOf need g n) (valsOf need' (fun _ => undef) n) M M' ex (give ++ keepOf need g n hav) M1 β))
  (hh : HolesOk E := by exact no_holes rfl) (ho : OphOk E := by exact no_oph rfl rfl) : Runs c n need M ex give hav M1 := by
 intro w0 w T Q hn hneed hS hQ
 rw [vals_eq hn hneed]
 refine ev_code hP hs hex D ts hD (h (tget T)) hS (fun T' w' e1 e2 e3 => ?_) hh ho
 have e1' : T'.n = n := by rw [e1]; simp [valsOf]
 refine hQ T' w' e1' (fun p hp => e2 p (List.mem_append_left _ hp)) (fun i hi hm => ?_) e3
 have h1 := e2 _ (List.mem_append_right _ (keep_mem (need := need) (g := tget T) hi hm))
 simp only at h1
 rw [h1]
 split
 ·rename_i v hv
  exact (hneed _ (assoc_mem hv)).symm
 ·rfl
def mkHole (c : Code) (n : Nat) (need : List (Nat × Value)) (R : List Rw) (pre : List Bool) (ex : Exit) (give : List (Nat × Value)) (hav : List Nat) (R1 : List Rw) : Hole :=
 ⟨c, n, need, R, pre, true, fun _ ξ => (ex, hav.map (fun k => (k, ξ k)) ++ give, R1)⟩
theorem mkHole_ok {c : Code} {n : Nat} {need : List (Nat × Value)} {R : List Rw} {ex : Exit} {give : List (Nat × Value)} {hav : List Nat} {R1 : List Rw} (hr : Runs c n need R ex give hav R1) (hg : ∀ p ∈ give, p.1 < n)
  {T : Tm} {w0 w : World} {Q : Exit → Act → World → Prop} (hn : T.n = n) (hneed : ∀ p ∈ need, tget T p.1 = p.2) (hS : SG w0 R w)
  (hQ : ∀ (ξ : Nat → Value) w', SG w0 R1 w' → Q ex ⟨(putsL (hav.map (fun k => (k, ξ k)) ++ give) T).toArray, []⟩ w') : c.wp Try.prog Q ⟨T.toArray, []⟩ w := by
 refine wpX_wp (hr w0 w T Q hn hneed hS fun T' w' e1 e2 e3 e4 => ?_)
 have h := hQ (tget T') w' e4
 obtain ⟨h1, h2⟩ := puts_get (tget T') hav T
 have e : (putsL (hav.map (fun k => (k, tget T' k)) ++ give) T).toArray = T'.toArray := by
  refine T_ext (by rw [putsL_n]; omega) fun i hi => ?_
  rw [putsL_n] at hi
  have hmid : ∀ i, i < T.n → tget (putsL (hav.map fun k => (k, tget T' k)) T) i = tget T' i := fun i hi => by
   rw [h2 i hi]
   cases hm : memN hav i with
   | true => simp
   | false =>
    simp only [Bool.false_eq_true, if_false]
    exact (e3 i (by omega) hm).symm
  rw [putsL_app, putsL_same _ _ (fun p hp => ?_), hmid i hi]
  have := hg p hp
  exact ⟨by rw [putsL_n]; omega, by rw [hmid _ (by omega)]; exact e2 p hp⟩
 rw [e] at h
 exact h
theorem runs_loop {id n m : Nat} {c : Code} {nc : List (Nat × Value)} {nv : Nat → List (Nat × Value)} {hav : List Nat} {R : Nat → List Rw} (_hc : ∀ b, c ≠ .loop b) (hnc : ∀ p ∈ nc, p.1 < n ∧ memN hav p.1 = false)
  (hr : ∀ p, p < m → Runs c n (nc ++ nv p) (R p) .normal (nv (p + 1)) hav (R (p + 1)))
  (he : Runs c n (nc ++ nv m) (R m) (.exit id) (nv m) hav (R m)) : Runs (.block id (.loop c)) n (nc ++ nv 0) (R 0) .normal (nv m) hav (R m) := by
 intro w0 w T Q hn hneed hS hQ
 refine wpX_of (fun _ h => by cases h) (wp_block ?_)
 refine loop_of ?_
 suffices H : ∀ k p, p + k = m → ∀ (w : World) (T' : Tm), T'.n = n → (∀ q ∈ nv p, tget T' q.1 = q.2) → (∀ i, i < n → memN hav i = false → tget T' i = tget T i) → SG w0 (R p) w →
   LoopWp Try.prog c (Exit.inBlock id Q) ⟨T'.toArray, []⟩ w by
  exact H m 0 (by omega) w T hn (fun q hq => hneed q (List.mem_append_right _ hq)) (fun _ _ _ => rfl) hS
 intro k
 induction k with
 | zero =>
  intro p hp w T' e1 e2 e3 e4
  obtain rfl : p = m := by omega
  refine loop_round (wpX_wp (he w0 w T' _ e1 (fun q hq => ?_) e4 fun T2 w2 f1 f2 f3 f4 => ?_))
  ·rcases List.mem_append.1 hq with hq | hq
   ·rw [e3 _ (hnc q hq).1 (hnc q hq).2]
    exact hneed q (List.mem_append_left _ hq)
   ·exact e2 q hq
  ·simp only [Exit.then, Exit.inBlock, if_true]
   exact hQ T2 w2 f1 f2 (fun i hi hm => (f3 i hi hm).trans (e3 i hi hm)) f4
 | succ k ih =>
  intro p hp w T' e1 e2 e3 e4
  refine loop_round (wpX_wp (hr p (by omega) w0 w T' _ e1 (fun q hq => ?_) e4 fun T2 w2 f1 f2 f3 f4 => ?_))
  ·rcases List.mem_append.1 hq with hq | hq
   ·rw [e3 _ (hnc q hq).1 (hnc q hq).2]
    exact hneed q (List.mem_append_left _ hq)
   ·exact e2 q hq
  ·simp only [Exit.then]
   exact ih (p + 1) (by omega) w2 T2 f1 f2 (fun i hi hm => (f3 i hi hm).trans (e3 i hi hm)) f4
def pt (b : Nat) : Value := .pointer (some ⟨b, 0, none⟩)
def vrow (b : Nat) (f : Nat → Int) : Rw := ⟨b, (bs f).toList, 40, true⟩
def hd1 : List (Nat → Int) → Nat → Int
 | f :: _ => f
 | [] => fun _ => 0
def hd2 : List (Nat → Int) → Nat → Int
 | _ :: f :: _ => f
 | _ => fun _ => 0
theorem one_fs {c : List Value} {fs : List (Nat → Int)} (h : [c] = fs.map (fun x => (bs x).toList)) : ∃ x, fs = [x] ∧ c = (bs x).toList := by
 match fs, h with
 | [x], h => simp only [List.map_cons, List.map_nil, List.cons.injEq, and_true] at h; exact ⟨x, rfl, h⟩
theorem two_fs {c d : List Value} {fs : List (Nat → Int)} (h : [c, d] = fs.map (fun x => (bs x).toList)) : ∃ x y, fs = [x, y] ∧ c = (bs x).toList ∧ d = (bs y).toList := by
 match fs, h with
 | [x, y], h => simp only [List.map_cons, List.map_nil, List.cons.injEq, and_true] at h; exact ⟨x, y, rfl, h.1, h.2⟩
theorem byt_one {a : Nat → Int} (ha : Byt a) : ∀ x ∈ [a], Byt x := fun x hx => by rw [List.mem_singleton.1 hx]; exact ha
theorem byt_two {a b : Nat → Int} (ha : Byt a) (hb : Byt b) : ∀ x ∈ [a, b], Byt x := fun x hx => by
 simp only [List.mem_cons, List.not_mem_nil, or_false] at hx
 rcases hx with rfl | rfl
 ·exact ha
 ·exact hb
theorem byt_three {a b c : Nat → Int} (ha : Byt a) (hb : Byt b) (hc : Byt c) : ∀ x ∈ [a, b, c], Byt x := fun x hx => by
 simp only [List.mem_cons, List.not_mem_nil, or_false] at hx
 rcases hx with rfl | rfl | rfl
 ·exact ha
 ·exact hb
 ·exact hc
theorem byt_zero : Byt fun _ => 0 := fun _ => ⟨Int.le_refl _, by show (0 : Int) ≤ 255; decide⟩
def smp (l : List Int) : Nat → Int := fun i => l.getD i 0
end Ev
end Go.Proofs.Ytjoalcaooccbiaa
/- EvH -/
namespace Go.Proofs.Ytjoalcaooccbiaa
open Go.RowKit VecM
namespace Ev
noncomputable def symOph (n : Nat) (f : Nat → Int) (o : Oper) (T : Tm) (M : List Rw) : Option OHole :=
 match o.op with
 | .indexAddr t x i => match Nat.beq t 40 with
  | true => match evalT T x, evalT T i with
   | .pointer (some ⟨b, 0, none⟩), .int _ z => some ⟨n, [], M, [decide (0 ≤ z), decide (z < 16)], some (.pointer (some ⟨b, z.toNat, none⟩)), M⟩
   | _, _ => none
  | false => none
 | .load t (.tmp p) => match Nat.beq t 5 with
  | true => match tget T p, M with
   | .pointer (some ⟨_, off, none⟩), r :: M => some ⟨n, [(p, .pointer (some ⟨r.b, off, none⟩))], vrow r.b f :: M, [decide (off < 16)], some (.int .u8 (f off)), vrow r.b f :: M⟩
   | _, _ => none
  | false => none
 | .store t (.tmp p) y => match Nat.beq t 5 with
  | true => match o.guard, tget T p, evalT T y, M with
   | none, .pointer (some ⟨_, off, none⟩), .int .u8 z, r :: M => some ⟨n, [(p, .pointer (some ⟨r.b, off, none⟩))], vrow r.b f :: M, [decide (off < 16)], none, vrow r.b (upd f off z) :: M⟩
   | _, _, _, _ => none
  | false => none
 | .binOp .shr _ x y _ => match evalT T x, evalT T y with
  | .int k m, .int _ z => some ⟨n, [], M, [decide (0 ≤ z)], some (.int k (m.fdiv (2 ^ (min z.toNat k.bits)))), M⟩
  | _, _ => none
 | .binOp .shl _ x y _ => match evalT T x, evalT T y with
  | .int k m, .int _ z => some ⟨n, [], M, [decide (0 ≤ z)], some (.int k (k.wrap (m * 2 ^ (min z.toNat k.bits)))), M⟩
  | _, _ => none
 | _ => none
def OphAt (oph : Oper → Tm → List Rw → Option OHole) : Prop := ∀ o T M H, oph o T M = some H → T.n = H.n → (∀ p ∈ H.need, tget T p.1 = p.2) → M = H.rows → (∀ b ∈ H.pre, b = true) → ∀ w0 w : World, SG w0 M w →
 ∃ w', (execOp (evalT T) o).run Try.prog w = .ok (match H.v with | some v => .value v | none => .skip) w' ∧ SG w0 H.rows1 w'
theorem run_load8 {ρ : Operand → Value} {o : Oper} {x : Operand} (ho : o.op = .load 5 x) {b j : Nat} (hx : ρ x = .pointer (some ⟨b, j, none⟩)) {v : Value} {w : World} (hv : w.cell? ⟨b, j, none⟩ = some v) : (execOp ρ o).run Try.prog w = .ok (.value v) w := by
 unfold execOp
 simp only [ho, hx]
 go_simp
theorem symOph_ok (n : Nat) (f : Nat → Int) : OphAt (symOph n f) := by
 intro o T M H hq hn hneed hrows hpre w0 w hS
 have he := eval_T T []
 unfold symOph at hq
 split at hq
 ·rename_i t x i hop
  split at hq
  ·rename_i ht
   obtain rfl := Nat.eq_of_beq_eq_true ht
   split at hq
   ·rename_i b kd z hx hi
    cases hq
    have h0 := hpre _ (List.mem_cons_self ..)
    have h1 := hpre _ (List.mem_cons_of_mem _ (List.mem_cons_self ..))
    simp only [decide_eq_true_eq] at h0 h1
    refine ⟨w, ?_, hS⟩
    rw [← he]
    exact run_addr (P := Try.prog) (a := ⟨T.toArray, []⟩) hop (by rw [he]; exact hx) (kd := kd) (j := z.toNat) (by rw [he, hi]; congr 1; omega) Try.underlying40 info8 size8 (by omega) w
   ·cases hq
  ·cases hq
 ·rename_i t p hop
  split at hq
  ·rename_i ht
   obtain rfl := Nat.eq_of_beq_eq_true ht
   split at hq
   ·rename_i b off r M' hx
    cases hq
    have h0 := hpre _ (List.mem_cons_self ..)
    simp only [decide_eq_true_eq] at h0
    have hp := hneed _ (List.mem_cons_self ..)
    simp only at hp
    rw [hrows] at hS
    refine ⟨w, ?_, hS⟩
    obtain ⟨fr, hrow, _⟩ := hS.row (List.mem_cons_self ..)
    refine run_load8 hop (b := r.b) (j := off) hp ?_
    rw [cell_of_row w r.b off _ _ fr hrow]
    show ((bs f).toList.toArray)[off]? = _
    rw [Array.toArray_toList]
    exact bs_get f off h0
   ·cases hq
  ·cases hq
 ·rename_i t p y hop
  split at hq
  ·rename_i ht
   obtain rfl := Nat.eq_of_beq_eq_true ht
   split at hq
   ·rename_i b off z r M' hgd hx hy
    cases hq
    have h0 := hpre _ (List.mem_cons_self ..)
    simp only [decide_eq_true_eq] at h0
    have hp := hneed _ (List.mem_cons_self ..)
    simp only at hp
    rw [hrows] at hS
    obtain ⟨fr, hrow, hfr⟩ := hS.row (r := vrow r.b f) (List.mem_cons_self ..)
    have hm : Has (ents (vrow r.b f :: M')) r.b (bs f).toList.toArray 40 := ents_mem (r := vrow r.b f) (List.mem_cons_self ..) rfl
    refine ⟨w.setCell ⟨r.b, off, none⟩ (.int .u8 z), ?_, ?_⟩
    ·rw [← he]
     refine run_put (P := Try.prog) (a := ⟨T.toArray, []⟩) (u := .int .u8 (f off)) (v := .int .u8 z) hop (by rw [he]; exact hp) (by rw [he]; exact hy) info8 size8 rfl w ?_ (hS.1.thawed hm off)
     rw [hS.1.cell hm off, Array.toArray_toList]
     exact bs_get f off h0
    ·have h2 := hS.setCell (j := 0) (r := vrow r.b f) rfl rfl off (.int .u8 z)
     have e : ((vrow r.b f).c.set off (.int .u8 z)) = (bs (upd f off z)).toList := by
      show (bs f).toList.set off (.int .u8 z) = _
      rw [← bs_upd f off z h0, Array.toList_setIfInBounds]
     rw [e] at h2
     exact h2
   ·cases hq
  ·cases hq
 ·rename_i t x y t' hop
  split at hq
  ·rename_i k m k' z hx hy
   cases hq
   have h0 := hpre _ (List.mem_cons_self ..)
   simp only [decide_eq_true_eq] at h0
   refine ⟨w, ?_, hS⟩
   rw [← he]
   exact run_shr (P := Try.prog) (a := ⟨T.toArray, []⟩) hop (by rw [he]; exact hx) (by rw [he]; exact hy) h0 rfl w
  ·cases hq
 ·rename_i t x y t' hop
  split at hq
  ·rename_i k m k' z hx hy
   cases hq
   have h0 := hpre _ (List.mem_cons_self ..)
   simp only [decide_eq_true_eq] at h0
   refine ⟨w, ?_, hS⟩
   rw [← he]
   exact run_shl (P := Try.prog) (a := ⟨T.toArray, []⟩) hop (by rw [he]; exact hx) (by rw [he]; exact hy) h0 rfl w
  ·cases hq
 ·cases hq
noncomputable def evHintsM (E E' : Env) (fuel : Nat) (f : FuncId) (args args' : List Value) (M M' : List Rw) : List It :=
 match evF E' .find noB fuel f args' ⟨0, [], M', []⟩ fun _ s => .ok s.acc with
 | .error _ => []
 | .ok h => match evF E .follow noB fuel f args ⟨0, h.reverse, M, []⟩ fun _ s => .ok s.acc with
  | .error _ => []
  | .ok h => h.reverse
noncomputable def evPathM (E E' : Env) (fuel : Nat) (f : FuncId) (args args' : List Value) (M M' : List Rw) (v : Value) (β : Nat → Fr) : Out :=
 evF E .check β fuel f args ⟨0, evHintsM E E' fuel f args args' M M', M, []⟩ fun r s => .ok (.eqv r v :: s.acc)
theorem ev_pathM {E E' : Env} (hP : E.P = Try.prog) (hs : SumOk E) {fuel : Nat} {f : FuncId} {args args' : List Value} {M M' : List Rw} {v : Value} (D : List (Bool × Bool)) (ts : List Nat) (hD : ∀ p ∈ D, p.1 = p.2)
  (h : ∀ β : Nat → Fr, tagOL D ts (evPathM E E' fuel f args args' M M' v β) = tagOR D ts (evPathM E E' fuel f args args' M M' v β)) (w : World) (hS : SG w M w) (hh : HolesOk E := by exact no_holes rfl) (ho : OphOk E := by exact no_oph rfl rfl) :
  Calls Try.prog f args.toArray w fun e w' => e = .returned v ∧ Gr w w' := by
 have hk : ∀ _ : Nat → Fr, KeepK (fun (r : Value) (s : Sg) => (.ok (.eqv r v :: s.acc) : Out)) := fun _ r s l hl hg x hx => by cases hl; exact hg x (List.mem_cons_of_mem _ hx)
 have h1 := runE_ok (E := E) hP (evC_ok hP hs hh ho follows_mixed fuel) w w f args noB 0 (evHintsM E E' fuel f args args' M M') M (fun _ => []) (fun _ r s => .ok (.eqv r v :: s.acc)) hk hS (fun β _ => good_tag hD ts (h β))
 refine h1.mono fun e w' ⟨r, he, γ', n', h', M2, A', hS', _, _, hgd⟩ => ?_
 have h2 := good_ok.1 (hgd γ' .refl) _ (List.mem_cons_self ..)
 simp only [It.l, It.r, Lv.v.injEq] at h2
 exact ⟨h2 ▸ he, hS'.gr⟩
end Ev
end Go.Proofs.Ytjoalcaooccbiaa
