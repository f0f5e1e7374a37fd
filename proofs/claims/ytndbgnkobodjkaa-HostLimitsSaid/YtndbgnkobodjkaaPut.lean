/-
  The contract of pair.Put.
-/
import Derived.Test.YtndbgnkobodjkaaSame
namespace Go.Proofs.Ytndbgnkobodjkaa
open Go.RowKit VecM
/-- a slice of vectors that reads as vs in the world w -/
def Vecs (w : World) (sv : Value) (len : Nat) (vs : Nat → Nat → Int) : Prop :=
  (len = 0 ∧ ∃ x c, sv = .slice x 0 c) ∨ (len ≤ 9223372036854775807 ∧ ∃ b off cap, sv = .slice (some ⟨b, off, none⟩) len cap ∧ ∀ j, j < len → ∀ m, m < 16 → w.cell? ⟨b, off + j * 16 + m, none⟩ = some (.int .u8 (vs j m)))
theorem vecs_gr {w w' : World} {sv : Value} {len : Nat} {vs : Nat → Nat → Int} (h : Vecs w sv len vs) (hg : Gr w w') : Vecs w' sv len vs := by
  rcases h with h | ⟨hl, b, off, cap, rfl, hc⟩
  · exact .inl h
  · exact .inr ⟨hl, b, off, cap, rfl, fun j hj m hm => gr_cell hg (hc j hj m hm)⟩
theorem vecs_zero {w : World} {a : Value} {zs : Nat → Nat → Int} (h : Vecs w a 0 zs) : ∃ x c, a = .slice x 0 c := by
  rcases h with ⟨_, x, c, rfl⟩ | ⟨_, b, o, c, rfl, _⟩
  · exact ⟨_, _, rfl⟩
  · exact ⟨_, _, rfl⟩
theorem bs_list (b : Nat → Int) (j : Nat) (v : Value) (h : (bs b).toList[j]? = some v) : j < 16 ∧ v = .int .u8 (b j) := by
  have hj : j < 16 := by
    have := (List.getElem?_eq_some_iff.1 h).1
    simpa using this
  refine ⟨hj, ?_⟩
  have := bs_get b j hj
  rw [← Array.getElem?_toList, h] at this
  exact Option.some.inj this
def putE (t : Int) (v : Nat → Int) : List Int := if t = 127 then [getI v 32 0] else if t = 126 then [getI v 64 0] else [getI v 64 0, getI v 64 1]
def putL (ts : Nat → Int) (vs : Nat → Nat → Int) : Nat → List Int
  | 0 => []
  | k + 1 => putL ts vs k ++ putE (ts k) (vs k)
def uvs (l : List Int) : List Value := l.map (Value.int .u64)
theorem uvs_app (l l' : List Int) : uvs (l ++ l') = uvs l ++ uvs l' := List.map_append
theorem putE_len (t : Int) (v : Nat → Int) : (putE t v).length ≤ 2 := by
  unfold putE; split
  · simp
  · split <;> simp
theorem putL_len (ts : Nat → Int) (vs : Nat → Nat → Int) : ∀ k, (putL ts vs k).length ≤ 2 * k
  | 0 => by simp [putL]
  | k + 1 => by
    have := putL_len ts vs k
    have := putE_len (ts k) (vs k)
    simp only [putL, List.length_append]; omega
theorem put_fin {w wr wx w3 : World} {e : TypeId} {u : Value} {n : Nat} {xs : List Value} (hg : Gr w wr) (hx : Gr wr wx) (hown : wr.ownsRow w.heap.size e 1 u n xs) (hgb : wx.grownBy w3 u.ownBlock) : Gr w w3 :=
  (gr_trans hg hx).grown hgb (fun q hq => (hown.lt q hq).1)
theorem put_row {w3 : World} {base : Nat} {e : TypeId} {u : Value} {ts : Nat → Int} {vs : Nat → Nat → Int} {k m : Nat} {t : Int} {news : List Value} (ht : ts k = t) (hn : uvs (putE t (vs k)) = news) (h : w3.ownsRow base e 1 u ((putL ts vs k).length + m) (uvs (putL ts vs k) ++ news)) :
    w3.ownsRow base e 1 u (putL ts vs (k + 1)).length (uvs (putL ts vs (k + 1))) := by
  have e1 : uvs (putL ts vs (k + 1)) = uvs (putL ts vs k) ++ news := by rw [putL, uvs_app, ht, hn]
  have hl := h.1
  have e2 : (putL ts vs (k + 1)).length = (putL ts vs k).length + m := by
    have h2 : (uvs (putL ts vs (k + 1))).length = (putL ts vs (k + 1)).length := by unfold uvs; simp
    rw [← e1, Nat.mul_one, h2] at hl
    exact hl
  rw [e1, e2]; exact h
set_option maxRecDepth 100000 in
set_option maxHeartbeats 2000000 in
theorem put_some (tb to tc b off cap len : Nat) (ts : Nat → Int) (vs : Nat → Nat → Int) (hvs : ∀ j, Byt (vs j)) (w : World) (hl : len ≤ 1099511627776) (hok : okT ts len)
    (ht : ∀ j, j < len → w.cell? ⟨tb, to + j, none⟩ = some (.int .i64 (ts j))) (hc : ∀ j, j < len → ∀ m, m < 16 → w.cell? ⟨b, off + j * 16 + m, none⟩ = some (.int .u8 (vs j m))) :
    Calls Try.prog 37 #[.slice (some ⟨tb, to, none⟩) len tc, .slice (some ⟨b, off, none⟩) len cap] w fun e w' => ∃ sv, e = .returned (.tuple #[sv, .int .i64 0]) ∧ Gr w w' ∧ w'.ownsRow w.heap.size 53 1 sv (putL ts vs len).length (uvs (putL ts vs len)) := by
  have HT := Lib.hid ht
  have HC := Lib.hid hc
  have HV := Lib.hid hvs
  have HO := Lib.hid hok
  have hcnt := count_some tb to tc len ts w hl ht
  rw [cntI_yes hok, cntB_yes hok] at hcnt
  have HN := Lib.hid hcnt
  obtain ⟨i0, hi, hz0, hz1, hz2⟩ := info_parts info64
  have HI := Lib.hid hi
  have HZ0 := Lib.hid hz0
  have HZ1 := Lib.hid hz1
  have HZ2 := Lib.hid hz2
  clear ht hc hvs hok hcnt hi hz0 hz1 hz2
  go_enter Try.func37, Try.ntmps37
  go_wp2_with (go_at_call 42; refine HN.out.mono ?_; rintro e w' ⟨rfl, rfl⟩)
  go_loopw [8, 28] (fun sv i wr => ∃ k : Nat, k ≤ len ∧ i = .int .i64 k ∧ Gr w wr ∧ wr.ownsRow w.heap.size 53 1 sv (putL ts vs k).length (uvs (putL ts vs k))) (fun _ i _ => len - (intOf i).toNat)
  case atStart => exact ⟨0, by omega, rfl, Gr.refl _, World.ownsRow_nil _ _ _ _⟩
  case round =>
    obtain ⟨k, hk, rfl, hg, hown⟩ := hrel
    have HG := Lib.hid hg
    have HW := Lib.hid hown
    clear hg hown
    by_cases hlt : k < len
    · have h1 := gr_cell HG.out (HT.out k hlt)
      have hld : ∀ j v, (bs (vs k)).toList[j]? = some v → wr.cell? ⟨b, off + k * 16 + j, none⟩ = some v := fun j v hv => by
        obtain ⟨hj, rfl⟩ := bs_list _ _ _ hv
        exact gr_cell HG.out (HC.out k hlt j hj)
      have HL := Lib.hid hld
      have CS := split_any (vs k) (HV.out k)
      have HS := Lib.hid CS
      clear hld CS
      have hlen := putL_len ts vs k
      by_cases c1 : ts k = 127
      · rw [c1] at h1
        go_upto_region 9 with (first | (refine wpList_load_cells rfl 86 _ rfl b (off + k * 16) rfl (bs (vs k)) _ HL.out Try.underlying86 rfl infoV ?_) | (go_at_call 44; refine (HS.out _).mono ?_; rintro e w1 ⟨rfl, hg1⟩; have HG1 := Lib.hid hg1; clear hg1) | (refine wpList_store_row rfl 93 _ _ rfl w1.heap.size #[.int .u64 (getI (vs k) 64 0), .int .u64 (getI (vs k) 64 1)] rfl rfl 93 #[.int .u64 0, .int .u64 0] (heap_alloc_new w1 _) infoH rfl (by kernel_rfl) ?_; rw [World.setRow_alloc_new]))
        have hld2 : ∀ j v, (bs (vs k)).toList[j]? = some v → (w1.alloc (.cells #[.int .u64 (getI (vs k) 64 0), .int .u64 (getI (vs k) 64 1)] 93)).cell? ⟨b, off + k * 16 + j, none⟩ = some v := fun j v hv => gr_cell (gr_trans HG1.out ((Gr.refl _).allocO (.cells #[.int .u64 (getI (vs k) 64 0), .int .u64 (getI (vs k) 64 1)] 93))) (HL.out j v hv)
        have HL2 := Lib.hid hld2
        have CG := get_any (vs k) (HV.out k) 32 0
        have HGt := Lib.hid CG
        clear hld2 CG
        go_wp2_with (first | (at_builtin; refine wpList_append_own _ rfl _ _ 22 rfl w.heap.size 53 i0 (.int .u64 0) 1 8 Try.underlying22 HI.out HZ0.out HZ1.out HZ2.out rfl (by decide) u8 (putL ts vs k).length _ rfl ((owns_gr HW.out (gr_trans (gr_trans HG1.out ((Gr.refl _).allocO (.cells #[.int .u64 (getI (vs k) 64 0), .int .u64 (getI (vs k) 64 1)] 93))) HG2.out)).alloc _) ⟨w2.heap.size, 0, none⟩ 1 1 [.int .u64 (getI (vs k) 32 0)] rfl rfl ?c1 ?c2 ?c3 ?c4 ?c5 ?_) | (refine wpList_load_cells rfl 86 _ rfl b (off + k * 16) rfl (bs (vs k)) _ HL2.out Try.underlying86 rfl infoV ?_) | (go_at_call 45; refine (HGt.out _).mono ?_; rintro e w2 ⟨rfl, hg2⟩; have HG2 := Lib.hid hg2; clear hg2))
        case c1 =>
          intro j u hju
          match j, hju with
          | 0, hju => simp at hju; subst hju; exact (cell_of_row _ _ 0 _ _ _ (heap_alloc_new (w2) _)).trans rfl
        case c2 => intro u hu; simp at hu; subst hu; rfl
        case c3 => unfold maxLen; omega
        case c4 => omega
        case c5 => have := (gr_trans (gr_trans HG1.out ((Gr.refl _).allocO (.cells #[.int .u64 (getI (vs k) 64 0), .int .u64 (getI (vs k) 64 1)] 93))) HG2.out).size; have := HG.out.size; simp at *; omega
        intro v' w3 hown2 hgb _
        have H1 := Lib.hid (put_fin HG.out (gr_trans (gr_trans (gr_trans HG1.out ((Gr.refl _).allocO (.cells #[.int .u64 (getI (vs k) 64 0), .int .u64 (getI (vs k) 64 1)] 93))) HG2.out) ((Gr.refl _).allocO _)) HW.out hgb)
        have H3 := Lib.hid (put_row (t := 127) c1 (by rfl) hown2)
        clear hown2 hgb
        go_wp2
        exact ⟨⟨k + 1, by omega, by go_num, H1.out, H3.out⟩, by simp [intOf]; omega⟩
      · by_cases c2 : ts k = 126
        · rw [c2] at h1
          clear c1
          go_upto_region 9 with (first | (refine wpList_load_cells rfl 86 _ rfl b (off + k * 16) rfl (bs (vs k)) _ HL.out Try.underlying86 rfl infoV ?_) | (go_at_call 44; refine (HS.out _).mono ?_; rintro e w1 ⟨rfl, hg1⟩; have HG1 := Lib.hid hg1; clear hg1) | (refine wpList_store_row rfl 93 _ _ rfl w1.heap.size #[.int .u64 (getI (vs k) 64 0), .int .u64 (getI (vs k) 64 1)] rfl rfl 93 #[.int .u64 0, .int .u64 0] (heap_alloc_new w1 _) infoH rfl (by kernel_rfl) ?_; rw [World.setRow_alloc_new]))
          go_wp2_with (at_builtin; refine wpList_append_own _ rfl _ _ 22 rfl w.heap.size 53 i0 (.int .u64 0) 1 8 Try.underlying22 HI.out HZ0.out HZ1.out HZ2.out rfl (by decide) u8 (putL ts vs k).length _ rfl ((owns_gr HW.out (gr_trans HG1.out ((Gr.refl _).allocO (.cells #[.int .u64 (getI (vs k) 64 0), .int .u64 (getI (vs k) 64 1)] 93)))).alloc _) ⟨w1.heap.size + 1, 0, none⟩ 1 1 [.int .u64 (getI (vs k) 64 0)] rfl rfl ?c1 ?c2 ?c3 ?c4 ?c5 ?_)
          case c1 =>
            intro j u hju
            match j, hju with
            | 0, hju => simp at hju; subst hju; exact (cell_of_row _ _ 0 _ _ _ (heap_alloc2_new w1 _ _)).trans rfl
          case c2 => intro u hu; simp at hu; subst hu; rfl
          case c3 => unfold maxLen; omega
          case c4 => omega
          case c5 => have := HG1.out.size; have := HG.out.size; simp at *; omega
          intro v' w3 hown2 hgb _
          have H1 := Lib.hid (put_fin HG.out (gr_trans (gr_trans HG1.out ((Gr.refl _).allocO (.cells #[.int .u64 (getI (vs k) 64 0), .int .u64 (getI (vs k) 64 1)] 93))) ((Gr.refl _).allocO _)) HW.out hgb)
          have H3 := Lib.hid (put_row (t := 126) c2 (by rfl) hown2)
          clear hown2 hgb
          go_wp2
          exact ⟨⟨k + 1, by omega, by go_num, H1.out, H3.out⟩, by simp [intOf]; omega⟩
        · have c3 : ts k = 123 := by
            have := HO.out k hlt
            unfold needI at this
            by_cases h : ts k = 123
            · exact h
            · rw [if_neg (by omega), if_neg h] at this; exact absurd rfl this
          rw [c3] at h1
          clear c1 c2
          go_upto_region 9 with (first | (refine wpList_load_cells rfl 86 _ rfl b (off + k * 16) rfl (bs (vs k)) _ HL.out Try.underlying86 rfl infoV ?_) | (go_at_call 44; refine (HS.out _).mono ?_; rintro e w1 ⟨rfl, hg1⟩; have HG1 := Lib.hid hg1; clear hg1) | (refine wpList_store_row rfl 93 _ _ rfl w1.heap.size #[.int .u64 (getI (vs k) 64 0), .int .u64 (getI (vs k) 64 1)] rfl rfl 93 #[.int .u64 0, .int .u64 0] (heap_alloc_new w1 _) infoH rfl (by kernel_rfl) ?_; rw [World.setRow_alloc_new]))
          go_wp2_with (at_builtin; refine wpList_append_own _ rfl _ _ 22 rfl w.heap.size 53 i0 (.int .u64 0) 1 8 Try.underlying22 HI.out HZ0.out HZ1.out HZ2.out rfl (by decide) u8 (putL ts vs k).length _ rfl ((owns_gr HW.out (gr_trans HG1.out ((Gr.refl _).allocO (.cells #[.int .u64 (getI (vs k) 64 0), .int .u64 (getI (vs k) 64 1)] 93)))).alloc _) ⟨w1.heap.size + 1, 0, none⟩ 2 2 [.int .u64 (getI (vs k) 64 0), .int .u64 (getI (vs k) 64 1)] rfl rfl ?c1 ?c2 ?c3 ?c4 ?c5 ?_)
          case c1 =>
            intro j u hju
            match j, hju with
            | 0, hju => simp at hju; subst hju; exact (cell_of_row _ _ 0 _ _ _ (heap_alloc2_new w1 _ _)).trans rfl
            | 1, hju => simp at hju; subst hju; exact (cell_of_row _ _ 1 _ _ _ (heap_alloc2_new w1 _ _)).trans rfl
          case c2 => intro u hu; simp at hu; rcases hu with rfl | rfl <;> rfl
          case c3 => unfold maxLen; omega
          case c4 => omega
          case c5 => have := HG1.out.size; have := HG.out.size; simp at *; omega
          intro v' w3 hown2 hgb _
          have H1 := Lib.hid (put_fin HG.out (gr_trans (gr_trans HG1.out ((Gr.refl _).allocO (.cells #[.int .u64 (getI (vs k) 64 0), .int .u64 (getI (vs k) 64 1)] 93))) ((Gr.refl _).allocO _)) HW.out hgb)
          have H3 := Lib.hid (put_row (t := 123) c3 (by rfl) hown2)
          clear hown2 hgb
          go_wp2
          exact ⟨⟨k + 1, by omega, by go_num, H1.out, H3.out⟩, by simp [intOf]; omega⟩
    · obtain rfl : len = k := by omega
      go_wp2
      go_ret2
      exact ⟨_, rfl, HG.out, HW.out⟩
/-- no row of types, or of another length than the values -/
theorem put_no (tv vv : Value) (a : Option Addr) (tc n m : Nat) (n' : Option Addr) (vc : Nat) (ts : Nat → Int) (w : World) (htv : tv = .slice a n tc) (hvv : vv = .slice n' m vc) (hn : n ≤ 1099511627776) (ht : I64s w tv n ts) (h : ¬ (okT ts n ∧ n = m)) :
    Calls Try.prog 37 #[tv, vv] w fun e w' => e = .returned (.tuple #[.slice none 0 0, .int .i64 1]) ∧ Gr w w' := by
  have C := count_any tv n ts w hn ht
  subst htv hvv
  by_cases ho : okT ts n
  · rw [cntI_yes ho, cntB_yes ho] at C
    have hne : ((n : Int) != (m : Int)) = true := by rw [bne_iff_ne]; intro e; exact h ⟨ho, by omega⟩
    have HC := Lib.hid C
    clear C h ht ho
    go_enter Try.func37, Try.ntmps37
    go_wp2_with (go_at_call 42; refine HC.out.mono ?_; rintro e w' ⟨rfl, rfl⟩)
    go_ret2
    exact ⟨rfl, Gr.refl _⟩
  · rw [cntI_no ho, cntB_no ho] at C
    have HC := Lib.hid C
    clear C h ht ho
    go_enter Try.func37, Try.ntmps37
    go_wp2_with (go_at_call 42; refine HC.out.mono ?_; rintro e w' ⟨rfl, rfl⟩)
    go_ret2
    exact ⟨rfl, Gr.refl _⟩
end Go.Proofs.Ytndbgnkobodjkaa
