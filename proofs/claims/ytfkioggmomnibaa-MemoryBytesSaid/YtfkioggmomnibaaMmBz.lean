/-
  Of layer 10: MemoryBytes: its loop, as a block whose run is known.
-/
import Derived.Test.YtfkioggmomnibaaMmBy
namespace Go.Proofs.Ytfkioggmomnibaa
open Go.RowKit VecM Ev
namespace Mm
theorem blkB : blkIn 7 0 = .block 0 (.loop (loopIn 7 0)) := by kernel_rfl
theorem noloopB : ∀ b, loopIn 7 0 ≠ .loop b := by
  intro b h
  have : (match loopIn 7 0 with | .loop _ => true | _ => false) = false := by kernel_rfl
  rw [h] at this
  cases this
structure Hb (c : List Value) (N cap : Nat) (a : Int) (off n sc : Nat) (dc : List Value) : Prop where
  sc : n ≤ sc
  nn : N = 65536
  cap : N ≤ cap
  ok : OkB c N
  lo : 0 ≤ a
  hi : a + n ≤ 65536
  src : SrcB dc off n
  eq : ∀ j, j < n → gB c (a.toNat + j) = gB dc (off + j)
/-- how many bytes a round takes -/
def kB (n p : Nat) : Nat := if n < 4096 * p + 4096 then n - 4096 * p else 4096
theorem iE_eq {n p : Nat} (h : 4096 * p < n) (h1 : n ≤ 65536) : iE n p = ((4096 * p + kB n p : Nat) : Int) := by
  unfold iE kB
  rw [iz_eq p (by omega), wi (by omega) (by omega)]
  by_cases h2 : n < 4096 * p + 4096
  · rw [if_pos (by omega), if_pos h2]; omega
  · rw [if_neg (by omega), if_neg h2]; omega
theorem kB_bd {n p : Nat} (h : 4096 * p < n) : 0 < kB n p ∧ kB n p ≤ 4096 ∧ 4096 * p + kB n p ≤ n := by
  unfold kB
  split <;> omega
theorem SrcB.is {s : List Value} {off n : Nat} (h : SrcB s off n) {q k : Nat} (hk : q + k ≤ n) : isBs (s.drop (off + q)) k = true := by
  refine List.all_eq_true.2 fun i hi => ?_
  have hi := List.mem_range.1 hi
  obtain ⟨z, hz, _⟩ := h (q + i) (by omega)
  rw [List.getElem?_drop, Nat.add_assoc, hz]; rfl
theorem loopB {c : List Value} {N cap : Nat} {a : Int} {off n sc : Nat} {dc : List Value} (H : Hb c N cap a off n sc dc) (x0 x1 : Rw) (mb b1 gb : Nat) (most : Int) (dt : TypeId) :
    Runs (blkIn 7 0) 95 (byNc a gb off n sc mb ++ nz 9 0) (byR x0 x1 mb b1 N cap most c gb dc dt) .normal [] byHav (byR x0 x1 mb b1 N cap most c gb dc dt) := by
  obtain ⟨hsc, hN, hcap, ok, hlo, hhi, src, he⟩ := H
  subst hN
  rw [blkB]
  refine Runs.less (runs_loop (id := 0) (n := 95) (m := (n + 4095) / 4096) (nc := byNc a gb off n sc mb) (nv := fun p => nz 9 (iz p)) (hav := byHav) (R := fun _ => byR x0 x1 mb b1 65536 cap most c gb dc dt) noloopB (fun p hp => ?_) (fun p hp => ?_) ?_)
  · simp only [byNc, List.mem_cons, List.not_mem_nil, or_false] at hp
    rcases hp with rfl | rfl | rfl
    · exact ⟨show (0 : Nat) < 95 by decide, show memN byHav 0 = false by decide⟩
    · exact ⟨show (1 : Nat) < 95 by decide, show memN byHav 1 = false by decide⟩
    · exact ⟨show (5 : Nat) < 95 by decide, show memN byHav 5 = false by decide⟩
  · have hp1 : 4096 * p < n := by omega
    have hn1 : n ≤ 65536 := by omega
    have ez := iz_eq p (by omega)
    have eE := iE_eq hp1 hn1
    obtain ⟨k0, k1, k2⟩ := kB_bd hp1
    have eM : iM n p = (kB n p : Nat) := by unfold iM; rw [eE, ez, wi (by omega) (by omega)]; omega
    have eA : iA a p = ((a.toNat + 4096 * p : Nat) : Int) := by unfold iA; rw [ez, wi (x := a) (by omega) (by omega), wi (by omega) (by omega)]; omega
    have eAn : (iA a p).toNat = a.toNat + 4096 * p := by rw [eA]; omega
    have eMn : (iM n p).toNat = kB n p := by rw [eM]; omega
    have ezn : (iz p).toNat = 4096 * p := by rw [ez]; omega
    have eEn : (iE n p).toNat - (iz p).toNat = kB n p := by rw [eE, ez]; omega
    refine R_byr x0 x1 mb b1 65536 cap most c gb off n sc dc dt a p fun β => ?_
    unfold D_byr
    rw [eAn, eMn, eEn, ezn]
    refine one_d (decide_eq_true (by omega)) (one_d ?_ (one_d ?_ (one_d (decide_eq_true (by omega)) (one_d (decide_eq_true (by omega)) (one_d (decide_eq_true (by omega)) (one_d ?_ (one_d ?_ nil_d)))))))
    · exact pkB_iff.2 ⟨⟨ok, hcap, by omega, by omega, by omega⟩, by omega, by omega⟩
    · exact cut_is ok (by omega)
    · exact src.is (by omega)
    · show neS (strL (((c.drop (a.toNat + 4096 * p)).take (kB n p)) ++ (β 0).t) (kB n p)) (strL (dc.drop (off + 4096 * p)) (kB n p)) = false
      have e : strL (((c.drop (a.toNat + 4096 * p)).take (kB n p)) ++ (β 0).t) (kB n p) = strL (dc.drop (off + 4096 * p)) (kB n p) := by
        unfold strL
        congr 1
        refine List.map_congr_left fun i hi => ?_
        have hi := List.mem_range.1 hi
        have h1 := ok.1
        rw [cut_gB hi (by omega), Nat.add_assoc, he _ (by omega)]
        unfold gB
        rw [List.getElem?_drop, Nat.add_assoc]
      rw [e]
      unfold neS
      simp
  · refine R_bye x0 x1 mb b1 65536 cap most c gb off n sc dc dt a _ fun β => one_d (decide_eq_false ?_) nil_d
    rw [iz_eq _ (by omega)]; omega
def HbF : Type := List Value → Nat → Nat → Int → Nat → Nat → Nat → List Value → Bool
noncomputable def hbR : HbF := fun c N cap a off n sc dc => @decide (Hb c N cap a off n sc dc) (Classical.propDecidable _)
def hbS : HbF := fun _ _ _ _ _ _ _ _ => true
theorem hb_iff {c : List Value} {N cap : Nat} {a : Int} {off n sc : Nat} {dc : List Value} : hbR c N cap a off n sc dc = true ↔ Hb c N cap a off n sc dc := @decide_eq_true_iff _ (Classical.propDecidable _)
noncomputable def byHole (B : HbF) (id : Nat) (_ : Code) (T : Tm) (M : List Rw) : Option Hole :=
  match Nat.beq id 0 with
  | true => match M with
    | [x0, x1, ⟨mb, [.slice (some ⟨_, 0, none⟩) N cap, .int .i64 most], _, _⟩, ⟨b1, c, _, _⟩, ⟨gb, dc, dt, _⟩] => match tget T 0, tget T 1 with
      | .int .u64 a, .slice (some ⟨_, off, none⟩) n sc => some (mkHole (blkIn 7 0) 95 (byNc a gb off n sc mb ++ nz 9 0) (byR x0 x1 mb b1 N cap most c gb dc dt) [B c N cap a off n sc dc] .normal [] byHav (byR x0 x1 mb b1 N cap most c gb dc dt))
      | _, _ => none
    | _ => none
  | false => none
noncomputable def envBl (G : Ga) (K : Gq) (B : HbF) : Env :=
  { P := Try.prog, known := [], sum := fun _ _ => none, csum := awC, hole := byHole B, msum := orM [(9, nwM G fun _ => 0), (11, clM G), (21, poM K), (19, saS G)], aop := apOp 0 0 }
theorem envBl_ms : ∀ f D, orM [(9, nwM gaR fun _ => 0), (11, clM gaR), (21, poM gqR), (19, saS gaR)] f = some D →
    ∀ k args L M H, D.hole k args L M = some H → Res2 D.dep M args L → (∀ b ∈ H.pre, b = true) → ∀ w0 w : World, SG w0 M w → Calls Try.prog f args.toArray w fun e w' => ∃ fr : List Fr, fr.length = H.n ∧ e = .returned (H.v fr) ∧ SG w0 (H.out fr) w' := by
  intro f D hq k args L M H h1 h2 h3 w0 w hS
  have hm := orM_mem hq
  simp only [List.mem_cons, List.not_mem_nil, or_false, Prod.mk.injEq] at hm
  rcases hm with ⟨rfl, rfl⟩ | ⟨rfl, rfl⟩ | ⟨rfl, rfl⟩ | ⟨rfl, rfl⟩
  · exact nwM_ok _ h1 h2 h3 w0 w hS
  · exact clM_ok h1 h2 h3 w0 w hS
  · exact poM_ok k args L M H h1 h2 h3 w0 w hS
  · exact saS_ok h1 h2 h3 w0 w hS
theorem envBl_ok : OphOk (envBl gaR gqR hbR) := ⟨awC_ok, fun _ _ _ _ hq => (by cases hq), envBl_ms, apOp_ok 0 0⟩
theorem envBl_holes (G : Ga) (K : Gq) : HolesOk (envBl G K hbR) := by
  intro id body T M H hq hn hneed hrows hpre w0 w1 Q hS hQ
  replace hq : byHole hbR id body T M = some H := hq
  unfold byHole at hq
  split at hq
  · split at hq
    · split at hq
      · cases hq
        have h := hb_iff.1 (hpre _ (List.mem_cons_self ..))
        exact mkHole_ok (loopB h _ _ _ _ _ _ _) (fun p hp => by cases hp) hn hneed (by rw [hrows] at hS; exact hS) fun ξ w' h => hQ ξ w' h
      · cases hq
    · cases hq
  · cases hq
end Mm
end Go.Proofs.Ytfkioggmomnibaa
