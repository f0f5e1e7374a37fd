/-
  Checked runs: the operations, one by one. Of no function.
-/
import Derived.Test.YthpnhanabcipmaaEvS
import Derived.Test.YthpnhanabcipmaaSlQ
import Derived.Deep.MidRow
namespace Go.Proofs.Ythpnhanabcipmaa
open Go.RowKit VecM
namespace Ev
theorem kNum_inj {k k' : IntKind} (h : Nat.beq (kNum k) (kNum k') = true) : k = k' := by
  cases k <;> cases k' <;> first | rfl | (exact absurd h (by decide))
theorem fastI_ok {P : Program} {b : BinOp} {k k' : IntKind} {m n : Int} {v : Value} (h : fastI b k m k' n = some v) (t : TypeId) (x y : Operand) (w : World) :
    (eqGuard b t x y (.int k m) (.int k' n)).run P w = .ok () w ∧ (binOp b t (.int k m) (.int k' n)).run P w = .ok v w := by
  constructor
  · cases b <;> simp [eqGuard]
  · unfold fastI at h
    split at h
    · split at h
      · cases h
      · rename_i hn
        obtain rfl := Option.some.inj h
        have hn' : ¬ n < 0 := by simpa using hn
        simp [binOp, Op.shift, hn']
    · split at h
      · cases h
      · rename_i hn
        obtain rfl := Option.some.inj h
        have hn' : ¬ n < 0 := by simpa using hn
        simp [binOp, Op.shift, hn']
    · split at h
      · cases h
      · rename_i hk
        obtain rfl := kNum_inj hk
        cases b <;> simp at h <;> (try subst h) <;> first | (exfalso; simp_all; done) | simp [binOp, Op.intArith, Op.intCmp]
theorem eqInts_ok : ∀ {c d : List Value} {q : Bool}, eqInts c d = some q → ∃ xs ys : List Int, c = xs.map (.int .u8) ∧ d = ys.map (.int .u8) ∧ xs.length = ys.length ∧ q = ((List.range xs.length).all fun i => xs.getD i 0 == ys.getD i 0) := by
  intro c
  induction c with
  | nil =>
    intro d q h
    unfold eqInts at h
    split at h
    · obtain rfl := Option.some.inj h
      exact ⟨[], [], rfl, rfl, rfl, rfl⟩
    · contradiction
    · cases h
  | cons a c ih =>
    intro d q h
    unfold eqInts at h
    split at h
    · contradiction
    · rename_i x l y l' heq
      cases heq
      split at h
      · rename_i q' hq'
        obtain ⟨xs, ys, rfl, rfl, hl, rfl⟩ := ih hq'
        obtain rfl := Option.some.inj h
        refine ⟨x :: xs, y :: ys, rfl, rfl, by simp [hl], ?_⟩
        simp [List.range_succ_eq_map, List.all_map, Function.comp_def]
      · cases h
    · cases h
theorem list16 {xs : List Int} (h : xs.length = 16) : (bs fun i => xs.getD i 0) = (xs.map (Value.int .u8)).toArray := by
  match xs, h with
  | [a0, a1, a2, a3, a4, a5, a6, a7, a8, a9, a10, a11, a12, a13, a14, a15], _ => rfl
theorem run_eq2 {o : Oper} {ρ : Operand → Value} {x y : Operand} {t : TypeId} {b c : Nat → Int} (ho : o.op = .binOp .eql 54 x y t) (hx : ρ x = .agg (bs b)) (hy : ρ y = .agg (bs c)) (w : World) :
    (execOp ρ o).run Try.prog w = .ok (.value (.bool (vecB b c))) w := by
  have hq := eq_vec b c w
  unfold execOp
  simp only [ho, hx, hy]
  go_simp
theorem run_ne2 {o : Oper} {ρ : Operand → Value} {x y : Operand} {t : TypeId} {b c : Nat → Int} (ho : o.op = .binOp .neq 54 x y t) (hx : ρ x = .agg (bs b)) (hy : ρ y = .agg (bs c)) (w : World) :
    (execOp ρ o).run Try.prog w = .ok (.value (.bool (!vecB b c))) w := by
  have hq := eq_vec b c w
  unfold execOp
  simp only [ho, hx, hy]
  go_simp
theorem fastV_ok {ρ : Operand → Value} {o : Oper} {v : Value} (h : fastV Try.prog ρ o.op = some v) (w : World) : (execOp ρ o).run Try.prog w = .ok (.value v) w := by
  unfold fastV at h
  split at h
  · rename_i x ho
    obtain rfl := Option.some.inj h
    unfold execOp; simp [ho]
  · rename_i x ho
    obtain rfl := Option.some.inj h
    unfold execOp; simp [ho]
  · rename_i b t x y t' ho
    split at h
    · rename_i k m k' n hx hy
      obtain ⟨h1, h2⟩ := fastI_ok (P := Try.prog) h t x y w
      unfold execOp
      simp only [ho, hx, hy, Sem.run_bind, h1, h2, Result.andThen_ok, Sem.run_pure]
    · rename_i c d hx hy
      split at h
      · rename_i ht
        obtain rfl := Nat.eq_of_beq_eq_true ht
        split at h
        · split at h
          · rename_i q hq
            split at h
            · rename_i hl
              obtain rfl := Option.some.inj h
              obtain ⟨xs, ys, rfl, rfl, hle, rfl⟩ := eqInts_ok hq
              have h16 : xs.length = 16 := by simpa using Nat.eq_of_beq_eq_true hl
              have e1 := list16 h16
              have e2 := list16 (hle ▸ h16)
              rw [run_eq2 ho (hx.trans (congrArg Value.agg e1.symm)) (hy.trans (congrArg Value.agg e2.symm)) w, h16]
              rfl
            · cases h
          · cases h
        · split at h
          · rename_i q hq
            split at h
            · rename_i hl
              obtain rfl := Option.some.inj h
              obtain ⟨xs, ys, rfl, rfl, hle, rfl⟩ := eqInts_ok hq
              have h16 : xs.length = 16 := by simpa using Nat.eq_of_beq_eq_true hl
              have e1 := list16 h16
              have e2 := list16 (hle ▸ h16)
              rw [run_ne2 ho (hx.trans (congrArg Value.agg e1.symm)) (hy.trans (congrArg Value.agg e2.symm)) w, h16]
              rfl
            · cases h
          · cases h
        · cases h
      · cases h
    · cases h
  · rename_i s d x ho
    split at h
    · rename_i k n hx
      split at h
      · rename_i ds k' hs hd
        obtain rfl := Option.some.inj h
        unfold execOp
        simp [ho, hx, convert, run_underlying hs, run_underlying hd, Conv.intToInt, Result.andThen]
      · cases h
    · cases h
  · cases h
/-! ### reading and writing variables, guards, results -/
theorem eval_T (T : Tm) (ds : List Deferred) : (⟨T.toArray, ds⟩ : Act).eval = evalT T := by
  funext x
  cases x with
  | tmp t => simp [Act.eval, evalT, tget_eq]
  | const v => rfl
  | global g => rfl
  | func f => rfl
section
variable {P : Program}
theorem aggB_ok {t : TypeId} {n : Nat} (h : aggB P t = some n) : ∃ d, P.underlying t = some d ∧ (match d with | .struct _ | .array _ _ => true | _ => false) = true ∧ (P.info? t).map (·.size) = some n := by
  unfold aggB at h
  split at h
  · rename_i fs hu; exact ⟨_, hu, rfl, h⟩
  · rename_i k e hu; exact ⟨_, hu, rfl, h⟩
  · cases h
theorem takeK_eq (n : Nat) : ∀ (l : List Value), (n ≤ l.length ∧ ∀ k, takeK n l k = k (l.take n)) ∨ ∀ k, takeK n l k = .error 97 := by
  induction n with
  | zero => exact fun l => .inl ⟨Nat.zero_le _, fun k => by rw [List.take_zero]; rfl⟩
  | succ n ih =>
    intro l
    cases l with
    | nil => exact .inr fun k => rfl
    | cons x l =>
      rcases ih l with ⟨h, e⟩ | e
      · exact .inl ⟨Nat.succ_le_succ h, fun k => by rw [List.take_succ_cons]; exact e _⟩
      · exact .inr fun k => e _
theorem takeK_kp {A : List It} {n : Nat} {l : List Value} {k : List Value → Out} (hk : ∀ q, Kp A (k q)) : Kp A (takeK n l k) := by
  rcases takeK_eq n l with ⟨_, e⟩ | e
  · rw [e]; exact hk _
  · rw [e]; exact .err
theorem loadE_kp {x : Value} {t : TypeId} {s : Sg} {k : KK Value} (hk : KeepK k) : Kp s.acc (loadE P .check x t s k) := by
  unfold loadE
  split
  · split
    · exact pickRow_kp fun j r s => takeK_kp fun q => hk _ _
    · exact evV_kp _ _ _ hk
  · exact evV_kp _ _ _ hk
  · exact .err
noncomputable def kAgg (n off : Nat) (k : KK Value) (_ : Nat) (r : Rw) (s : Sg) : Out := takeK n (r.c.drop off) fun q => k (.agg ⟨q⟩) s
theorem kAgg_kp {n off : Nat} {k : KK Value} (hk : KeepK k) (j : Nat) (r : Rw) (s : Sg) : Kp s.acc (kAgg n off k j r s) := takeK_kp fun _ => hk _ _
theorem loadE_st {x : Value} {t : TypeId} {s : Sg} {k : KK Value} (hk : KeepK k) (hg : good (loadE P .check x t s k)) :
    ∃ a v h, x = .pointer (some a) ∧ (∀ w0 w, SG w0 s.M w → (loadVar t a).run P w = .ok v w) ∧ ∀ A, ∃ B, A ⊆ B ∧ ∀ k', loadE P .check x t ⟨s.n, s.h, s.M, A⟩ k' = k' v ⟨s.n, h, s.M, B⟩ := by
  unfold loadE at hg
  split at hg
  · rename_i b off
    split at hg
    · rename_i n hn
      have hg : good (pickRow .check b s (kAgg n off k)) := hg
      obtain ⟨j, h, r, hj, hb, he⟩ := pickRow_inv (kAgg_kp hk) hg
      rw [he s.acc] at hg
      unfold kAgg at hg
      rcases takeK_eq n (r.c.drop off) with ⟨hl, e2⟩ | e2
      · obtain ⟨d, hu, hd, hi⟩ := aggB_ok hn
        refine ⟨_, .agg ((r.c.drop off).take n).toArray, h, rfl, fun w0 w hS => ?_, fun A => ⟨.eqv (.int .u64 b) (.int .u64 r.b) :: A, fun _ h => List.mem_cons_of_mem _ h, fun k' => ?_⟩⟩
        · obtain ⟨fr, hrow, _⟩ := hS.row (List.mem_of_getElem? hj)
          subst hb
          refine run_loadVar_mid w r.b off t ((r.c.drop off).take n) d (fun j u hu => ?_) hu (by cases d <;> first | rfl | cases hd) (by rw [hi, List.length_take, Nat.min_eq_left hl])
          rw [cell_of_row w r.b (off + j) _ r.t fr hrow]
          have hj : j < n := by
            rcases Nat.lt_or_ge j n with hj | hj
            · exact hj
            · rw [List.getElem?_eq_none (by rw [List.length_take]; omega)] at hu; cases hu
          rw [List.getElem?_take_of_lt hj, List.getElem?_drop] at hu
          simpa using hu
        · unfold loadE
          simp only [hn]
          refine Eq.trans (he A (kAgg n off k')) ?_
          unfold kAgg
          rw [e2]
      · rw [e2] at hg
        exact absurd hg not_good
    · rename_i hn
      obtain ⟨v, h, hrun, hE⟩ := evV_st _ _ _ hk hg
      refine ⟨_, v, h, rfl, hrun, fun A => ?_⟩
      obtain ⟨B, hB, hE⟩ := hE A
      refine ⟨B, hB, fun k' => ?_⟩
      unfold loadE
      simp only [hn]
      exact hE k'
  · rename_i a hne
    obtain ⟨v, h, hrun, hE⟩ := evV_st _ _ _ hk hg
    refine ⟨_, v, h, rfl, hrun, fun A => ?_⟩
    obtain ⟨B, hB, hE⟩ := hE A
    refine ⟨B, hB, fun k' => ?_⟩
    unfold loadE
    simp only
    exact hE k'
  · exact absurd hg not_good
theorem loadE_ok {w0 w : World} {x : Value} {t : TypeId} {s : Sg} {k : KK Value} (hk : KeepK k) (hS : SG w0 s.M w) (hg : good (loadE P .check x t s k)) :
    ∃ a v h, x = .pointer (some a) ∧ (loadVar t a).run P w = .ok v w ∧ ∀ A, ∃ B, A ⊆ B ∧ ∀ k', loadE P .check x t ⟨s.n, s.h, s.M, A⟩ k' = k' v ⟨s.n, h, s.M, B⟩ := by
  obtain ⟨a, v, h, hx, hr, he⟩ := loadE_st hk hg
  exact ⟨a, v, h, hx, hr w0 w hS, he⟩
theorem askG_kp {ops : List Oper} {T : Tm} {o : Oper} {s : Sg} {k : Bool → Sg → Out} (hk : ∀ b s, Kp s.acc (k b s)) : Kp s.acc (askG .check ops T o s k) := by
  unfold askG
  split
  · exact hk _ _
  · split
    · exact pickCon_kp fun b s => hk _ s
    · exact hk _ _
theorem pickV_kp {x a b : Value} {s : Sg} {k : KK Value} (hk : KeepK k) : Kp s.acc (pickV .check x a b s k) := by
  unfold pickV
  split
  · refine pickCon_kp fun b s => ?_
    cases b <;> exact hk _ _
  · exact .err
theorem pickV_st {x a b : Value} {s : Sg} {k : KK Value} (hk : KeepK k) (hg : good (pickV .check x a b s k)) :
    ∃ q h, x = .bool q ∧ ∀ A, ∃ B, A ⊆ B ∧ ∀ k', pickV .check x a b ⟨s.n, s.h, s.M, A⟩ k' = k' (if q then a else b) ⟨s.n, h, s.M, B⟩ := by
  unfold pickV at hg
  split at hg
  · rename_i x
    obtain ⟨q, h, hx, hE⟩ := pickCon_inv (k := fun x s => match x with | true => k a s | false => k b s) (fun x s => by cases x <;> exact hk _ _) hg
    refine ⟨q, h, by rw [hx], fun A => ⟨.con x q :: A, fun _ h => List.mem_cons_of_mem _ h, fun k' => ?_⟩⟩
    unfold pickV
    refine (hE A (fun x s => match x with | true => k' a s | false => k' b s)).trans ?_
    cases q <;> rfl
  · exact absurd hg not_good
theorem run_pick {P : Program} {ρ : Operand → Value} {o : Oper} {c a b : Operand} {q : Bool} (ho : o.op = .pick c a b) (hc : ρ c = .bool q) (w : World) : (execOp ρ o).run P w = .ok (.value (if q then ρ a else ρ b)) w := by
  unfold execOp
  cases q <;> simp [ho, hc, asBool]
theorem yield_T (ops : List Oper) (T : Tm) (j : Nat) : yielded ops.toArray T.toArray j = yieldT ops T j := by
  unfold yielded yieldT
  have e : (fun x => T.toArray[x]?) = tget? T := by funext d; exact (tget?_eq T d).symm
  simp only [List.getElem?_toArray] at e ⊢
  simp only [e]
  rfl
theorem askG_inv {ops : List Oper} {T : Tm} {o : Oper} {s : Sg} {k : Bool → Sg → Out} (hk : ∀ b s, Kp s.acc (k b s)) (hg : good (askG .check ops T o s k)) :
    ∃ g h, Region.wanted o (yielded ops.toArray T.toArray) = g ∧ ∀ A, ∃ B, A ⊆ B ∧ ∀ k', askG .check ops T o ⟨s.n, s.h, s.M, A⟩ k' = k' g ⟨s.n, h, s.M, B⟩ := by
  unfold askG at hg
  split at hg
  · rename_i hgd
    exact ⟨true, s.h, by simp [Region.wanted, hgd], fun A => ⟨A, fun _ h => h, fun k' => by unfold askG; simp only [hgd]⟩⟩
  · rename_i j want hgd
    split at hg
    · rename_i b hb
      obtain ⟨g, h, hc, he⟩ := pickCon_inv (k := fun b s => k (b == want) s) (fun b s => hk _ s) hg
      refine ⟨g == want, h, ?_, fun A => ⟨.con b g :: A, fun _ h => List.mem_cons_of_mem _ h, fun k' => ?_⟩⟩
      · unfold Region.wanted
        simp only [hgd, yield_T, hb]
        rw [← hc]
        cases b <;> cases want <;> rfl
      · unfold askG
        simp only [hgd, hb]
        exact he A fun b s => k' (b == want) s
    · rename_i hb
      refine ⟨false, s.h, ?_, fun A => ⟨A, fun _ h => h, fun k' => by unfold askG; simp only [hgd, hb]⟩⟩
      unfold Region.wanted
      simp only [hgd, yield_T, hb]
      rfl
theorem storeE_kp {β : Nat → Fr} {x v : Value} {t : TypeId} {s : Sg} {k : Sg → Out} (hk : ∀ s, Kp s.acc (k s)) : Kp s.acc (storeE P .check β x v t s k) := by
  unfold storeE
  split
  · split
    · split
      · refine pickRow_kp fun j r s => ?_
        split
        · rw [putR_eq]; exact hk ⟨s.n, s.h, _, s.acc⟩
        · exact .err
      · exact .err
    · exact evS_kp _ _ _ fun _ s => hk s
  · exact evS_kp _ _ _ fun _ s => hk s
  · exact .err
noncomputable def kPut (n : Nat) (c : List Value) (k : Sg → Out) (j : Nat) (r : Rw) (s : Sg) : Out := match r.own && (Nat.beq n r.c.length && (Nat.beq n c.length && c.all (·.oneCell'))) with
  | true => putR s.M j ⟨r.b, c, r.t, true⟩ fun M => k ⟨s.n, s.h, M, s.acc⟩
  | false => .error 33
theorem kPut_kp {n : Nat} {c : List Value} {k : Sg → Out} (hk : ∀ s, Kp s.acc (k s)) (j : Nat) (r : Rw) (s : Sg) : Kp s.acc (kPut n c k j r s) := by
  unfold kPut
  split
  · rw [putR_eq]; exact hk ⟨s.n, s.h, _, s.acc⟩
  · exact .err
theorem storeE_ok {w0 w : World} {x v : Value} {t : TypeId} {γ : Nat → Fr} {n : Nat} {h : List It} {M : List Rw} {A : (Nat → Fr) → List It} {K : (Nat → Fr) → Sg → Out} (hk : ∀ β s, Kp s.acc (K β s)) (hS : SG w0 M w)
    (hg : ∀ β, Ag n β γ → good (storeE P .check β x v t ⟨n, h, M, A β⟩ (K β))) : ∃ a w', x = .pointer (some a) ∧ (storeVar t a v).run P w = .ok () w' ∧ On w0 n γ (fun β (_ : Unit) s => K β s) () w' := by
  by_cases hx : ∃ b, x = .pointer (some ⟨b, 0, none⟩)
  · obtain ⟨b, rfl⟩ := hx
    by_cases hv : ∃ c, v = .agg c
    · obtain ⟨⟨c⟩, rfl⟩ := hv
      cases hi : (P.info? t).map (·.size) with
      | none =>
        have h0 := hg γ .refl
        unfold storeE at h0
        simp only [hi] at h0
        exact absurd h0 not_good
      | some m =>
        have e : ∀ β, storeE P .check β (.pointer (some ⟨b, 0, none⟩)) (.agg ⟨c⟩) t ⟨n, h, M, A β⟩ (K β) = pickRow .check b ⟨n, h, M, A β⟩ (kPut m c (K β)) := fun β => by
          unfold storeE
          simp only [hi]
          rfl
        have h0 := hg γ .refl
        rw [e] at h0
        obtain ⟨j, h', r, hj, hb, he⟩ := pickRow_inv (kPut_kp (hk γ)) h0
        rw [he (A γ)] at h0
        unfold kPut at h0
        split at h0
        · rename_i hq
          have hq0 := hq
          simp only [Bool.and_eq_true] at hq
          obtain ⟨ho, h1, h2, h3⟩ := hq
          have h1 := Nat.eq_of_beq_eq_true h1
          have h2 := Nat.eq_of_beq_eq_true h2
          obtain ⟨fr, hrow, hfr⟩ := hS.row (List.mem_of_getElem? hj)
          obtain rfl := hfr ho
          refine ⟨_, w.setRow b c.toArray, rfl, ?_, γ, n, h', M.set j ⟨r.b, c, r.t, true⟩, fun β => .eqv (.int .u64 b) (.int .u64 r.b) :: A β, ?_, Nat.le_refl _, .refl, fun β hβ => ?_⟩
          · subst hb
            exact run_storeVar_row w r.b r.t t r.c.toArray c.toArray hrow (by simp [hi, h2]) (by simp; omega) (by simpa using h3)
          · subst hb
            exact hS.set hj ho c
          · have h4 := hg β hβ
            rw [e, he (A β)] at h4
            unfold kPut at h4
            rw [hq0] at h4
            simp only [putR_eq] at h4
            exact h4
        · exact absurd h0 not_good
    · have e : ∀ β, storeE P .check β (.pointer (some ⟨b, 0, none⟩)) v t ⟨n, h, M, A β⟩ (K β) = evS P .check β (storeVar t ⟨b, 0, none⟩ v) ⟨n, h, M, A β⟩ (fun _ s => K β s) := fun β => by
        unfold storeE
        cases v <;> first | rfl | exact absurd ⟨_, rfl⟩ hv
      obtain ⟨u, w', hrun, hon⟩ := evS_ok (storeVar t ⟨b, 0, none⟩ v) γ n h M A w (fun β (_ : Unit) s => K β s) (fun β _ s => hk β s) hS (fun β hβ => by rw [← e]; exact hg β hβ)
      exact ⟨_, w', rfl, hrun, hon⟩
  · have h0 := hg γ .refl
    unfold storeE at h0
    split at h0
    · exact absurd ⟨_, rfl⟩ hx
    · rename_i a hne
      have e : ∀ β, storeE P .check β (.pointer (some a)) v t ⟨n, h, M, A β⟩ (K β) = evS P .check β (storeVar t a v) ⟨n, h, M, A β⟩ (fun _ s => K β s) := fun β => by
        unfold storeE
        split
        · rename_i heq
          exact absurd ⟨_, heq⟩ hx
        · rename_i heq; cases heq; rfl
        · rename_i h1 h2; exact absurd rfl (h2 a)
      obtain ⟨u, w', hrun, hon⟩ := evS_ok (storeVar t a v) γ n h M A w (fun β (_ : Unit) s => K β s) (fun β _ s => hk β s) hS (fun β hβ => by rw [← e]; exact hg β hβ)
      exact ⟨_, w', rfl, hrun, hon⟩
    · exact absurd h0 not_good
end
/-! ### a function's results -/
instance : LawfulMonad Sem := LawfulMonad.mk'
  (id_map := fun x => by
    show Sem.bind x (fun a => Sem.pure (id a)) = x
    induction x <;> simp_all [Sem.bind] <;> (funext b; cases b <;> simp_all))
  (pure_bind := fun _ _ => rfl)
  (bind_assoc := fun x f g => by
    show Sem.bind (Sem.bind x f) g = Sem.bind x (fun a => Sem.bind (f a) g)
    induction x <;> simp_all [Sem.bind] <;> (funext b; cases b <;> simp_all))
noncomputable def resF (T : Tm) : ResultVar → Sem Value
  | .tmp t => pure (T.toArray.getD t undef)
  | .cell a t => do loadVar t (← asAddr (T.toArray.getD a undef))
def tupV (vs : List Value) : Value := match vs with
  | [v] => v
  | vs => .tuple vs.toArray
theorem results_list (fn : Func) (T : Tm) : results fn T.toArray = (do let vs ← fn.results.toList.mapM (resF T); pure (tupV vs)) := by
  unfold results
  rw [Array.mapM_eq_mapM_toList]
  have e : (fun x => match x with | .tmp t => pure (T.toArray.getD t undef) | .cell a t => do loadVar t (← asAddr (T.toArray.getD a undef)) : ResultVar → Sem Value) = resF T := by
    funext x; cases x <;> rfl
  have e2 : ∀ vs : List Value, (if h : vs.toArray.size = 1 then vs.toArray[0] else .tuple vs.toArray) = tupV vs := by
    intro vs
    match vs with
    | [] => rfl
    | [v] => rfl
    | a :: b :: l => simp [tupV]
  simp only [bind_map_left]
  congr 1
  · funext vs
    exact congrArg pure (e2 vs)
end Ev
end Go.Proofs.Ythpnhanabcipmaa
