/-
  Texts of this seat, joined: Append, LebPut. Each says what it proves.
-/
import Derived.Test.YtebkabidojipoaaMk3
import Derived.Laws.AppendOwnNone
/- Append -/
namespace Go.Proofs.Ytebkabidojipoaa
open Go.RowKit
def Src (w : World) (v : Value) (m : Nat) (news : List Value) : Prop :=
 (v = .slice none 0 0 ∧ m = 0 ∧ news = []) ∨ ∃ ad c, v = .slice (some ad) m c ∧ ∀ j u, news[j]? = some u → w.cell? (ad.add j) = some u
theorem src_of_owns {w : World} {base : Nat} {e : TypeId} {size : Nat} {v : Value} {n : Nat} {xs : List Value} (h : w.ownsRow base e size v n xs) : Src w v n xs := by
 rcases h.2 with ⟨rfl, rfl⟩ | ⟨g, cap, cur, rfl, _⟩
 ·exact .inl ⟨rfl, rfl, by have := h.1; simpa using this⟩
 ·exact .inr ⟨_, _, rfl, h.cells rfl⟩
theorem src_gr {w w' : World} {v : Value} {n : Nat} {xs : List Value} (h : Src w v n xs) (hg : Gr w w') : Src w' v n xs := by
 rcases h with h | ⟨ad, c, rfl, hc⟩
 ·exact .inl h
 ·refine .inr ⟨ad, c, rfl, fun j u hu => ?_⟩
  have h1 := hc j u hu
  obtain ⟨b, o, sp⟩ := ad
  have hlt : ((⟨b, o, sp⟩ : Addr).add j).block < w.heap.size := block_lt_of_cell h1
  rw [Below.cell hg hlt]; exact h1
theorem wpList_append_src {P : Program} {w : World} {ops : Array Oper} {rest : List Oper} {o : Oper} {a : Act} {Q : Exit → Act → World → Prop} (hgd : o.guard = none) (s x : Operand) (t : TypeId)
  (ho : o.op = .call { callee := .builtin .append, args := #[s, x], argTypes := #[t, t] })
  (base : Nat) (e : TypeId) (i : TypeInfo) (z : Value) (size bytes : Nat) (ht : P.underlying t = some (.slice e)) (hi : P.info? e = some i) (hz : i.zero = some z)
  (hsize : i.size = size) (hby : i.bytes = bytes) (hzs : z.cells.size = size) (hsz : 0 < size)
  (v : Value) (n : Nat) (xs : List Value) (hs : a.eval s = v) (hown : w.ownsRow base e size v n xs)
  (sv : Value) (m : Nat) (news : List Value) (hx : a.eval x = sv) (hsrc : Src w sv m news) (hl : news.length = m * size) (h1 : ∀ u ∈ news, u.oneCell' = true)
  (h63 : n + m ≤ maxLen) (hbytes : (n + m) * bytes ≤ 140737488355328) (hbase : base ≤ w.heap.size)
  (h : ∀ v' w', w'.ownsRow base e size v' (n + m) (xs ++ news) → w.grownBy w' v.ownBlock → wpList P ops Q rest (a.put o.dst v') w') : wpList P ops Q (o :: rest) a w := by
 rcases hsrc with ⟨rfl, rfl, rfl⟩ | ⟨ad, c, rfl, hc⟩
 ·exact wpList_append_own_none hgd s x t ho base e i size ht hi v n xs hs hown hx (h v w (by simpa using hown) ⟨rfl, rfl, rfl, Nat.le_refl _, fun _ _ _ => rfl⟩)
 ·exact wpList_append_own w hgd s x t ho base e i z size bytes ht hi hz hsize hby hzs hsz v n xs hs hown ad m c news hx hl hc h1 h63 hbytes hbase fun v' w' h2 h3 _ => h v' w' h2 h3
end Go.Proofs.Ytebkabidojipoaa
/- LebPut -/
namespace Go.Proofs.Ytebkabidojipoaa
open Go.RowKit LebM
def u8s (l : List Int) : List Value := l.map (Value.int .u8)
theorem u8s_app (l l' : List Int) : u8s (l ++ l') = u8s l ++ u8s l' := List.map_append
theorem u8s_len (l : List Int) : (u8s l).length = l.length := by unfold u8s; simp
def lebU : Nat → Int → List Int
 | 0, n => [n % 128]
 | m + 1, n => if n ≤ 127 then [n] else (n % 128 + 128) :: lebU m (n / 128)
def lebS : Nat → Int → List Int
 | 0, n => [n % 128]
 | m + 1, n => if -64 ≤ n ∧ n < 64 then [n % 128] else (n % 128 + 128) :: lebS m (n / 128)
def formU (n : Int) : List Int := lebU 9 n
def formS (n : Int) : List Int := lebS 9 n
def forms (f : Int → List Int) (zs : Nat → Int) : Nat → List Int
 | 0 => []
 | k + 1 => forms f zs k ++ f (zs k)
theorem lebU_len : ∀ m n, (lebU m n).length ≤ m + 1
 | 0, _ => by simp [lebU]
 | m + 1, n => by
  have := lebU_len m (n / 128)
  unfold lebU; split
  ·simp
  ·simp only [List.length_cons]; omega
theorem lebS_len : ∀ m n, (lebS m n).length ≤ m + 1
 | 0, _ => by simp [lebS]
 | m + 1, n => by
  have := lebS_len m (n / 128)
  unfold lebS; split
  ·simp
  ·simp only [List.length_cons]; omega
theorem forms_len {f : Int → List Int} (h : ∀ n, (f n).length ≤ 10) (zs : Nat → Int) : ∀ k, (forms f zs k).length ≤ 10 * k
 | 0 => by simp [forms]
 | k + 1 => by
  have := forms_len h zs k
  have := h (zs k)
  simp only [forms, List.length_append]; omega
theorem info8 : (Try.prog.info? 5).map (fun i => (i.zero, i.size, i.bytes)) = some (some (.int .u8 0), 1, 1) := by kernel_rfl
theorem or128 (lo : Int) (h : 0 ≤ lo ∧ lo < 128) : Go.bits .or .u8 lo 128 = lo + 128 := by
 obtain ⟨n, rfl⟩ := Int.eq_ofNat_of_zero_le h.1
 have hn : n < 128 := by omega
 have : ∀ n : Fin 128, Go.bits .or .u8 ((n.val : Nat) : Int) 128 = ((n.val : Nat) : Int) + 128 := by decide +kernel
 exact this ⟨n, hn⟩
theorem and127u (n : Int) (h : 0 ≤ n ∧ n < 18446744073709551616) : Go.bits .and .u64 n 127 = n % 128 := by
 obtain ⟨a, rfl⟩ := Int.eq_ofNat_of_zero_le h.1
 rw [show (127 : Int) = ((127 : Nat) : Int) from rfl, bits_and_u64_nat _ _ (by omega) (by decide), show (127 : Nat) = 2 ^ 7 - 1 from rfl, Nat.and_two_pow_sub_one_eq_mod]
 omega
theorem src_lit (w : World) (cs : Array Value) (t : TypeId) (m c : Nat) : Src (w.alloc (.cells cs t)) (.slice (some ⟨w.heap.size, 0, none⟩) m c) m cs.toList :=
 .inr ⟨_, _, rfl, fun j x hx => by
  have : (⟨w.heap.size, 0, none⟩ : Addr).add j = ⟨w.heap.size, j, none⟩ := by unfold Addr.add; split <;> simp_all
  rw [this]
  exact (cell_of_row _ _ j _ _ _ (heap_alloc_new w _)).trans (by simpa using hx)⟩
theorem own_gr {w w' : World} {base : Nat} {e : TypeId} {size : Nat} {v : Value} {n : Nat} {xs : List Value} (h : w.ownsRow base e size v n xs) (hg : Gr w w') : w'.ownsRow base e size v n xs :=
 h.kept (row := none) ⟨hg.os, hg.tape, hg.output, hg.size, fun k hk _ => hg.block k hk⟩ (by cases v.ownBlock <;> simp)
theorem own_step {w wr w3 : World} {base : Nat} {v v' : Value} {l : List Int} {x : Int} (hg : Gr w wr) (hown : wr.ownsRow base 5 1 v l.length (u8s l)) (hb : w.heap.size ≤ base) (o : Obj) (hgb : (wr.alloc o).grownBy w3 v.ownBlock) (h3 : w3.ownsRow base 5 1 v' (l.length + 1) (u8s l ++ [.int .u8 x])) :
  Gr w w3 ∧ w3.ownsRow base 5 1 v' (l ++ [x]).length (u8s (l ++ [x])) := by
 refine ⟨(hg.allocO o).grown hgb (fun q hq => Nat.le_trans hb (hown.lt q hq).1), ?_⟩
 rw [u8s_app, List.length_append]; exact h3
def Ks (k : IntKind) (w : World) (sv : Value) (len : Nat) (zs : Nat → Int) : Prop :=
 (len = 0 ∧ ∃ x c, sv = .slice x 0 c) ∨ (len ≤ 9223372036854775807 ∧ ∃ b off cap, sv = .slice (some ⟨b, off, none⟩) len cap ∧ ∀ j, j < len → w.cell? ⟨b, off + j, none⟩ = some (.int k (zs j)))
theorem lebU_go {m : Nat} {n : Int} (h : 127 < n) : lebU (m + 1) n = (n % 128 + 128) :: lebU m (n / 128) := by rw [lebU, if_neg (by omega)]
theorem lebU_end {m : Nat} {n : Int} (h : 0 ≤ n ∧ n ≤ 127) : lebU m n = [n] := by
 cases m with
 | zero => rw [lebU, show n % 128 = n by omega]
 | succ m => rw [lebU, if_pos h.2]
theorem lebS_go {m : Nat} {n : Int} (h : ¬ (-64 ≤ n ∧ n < 64)) : lebS (m + 1) n = (n % 128 + 128) :: lebS m (n / 128) := by rw [lebS, if_neg h]
theorem lebS_end {m : Nat} {n : Int} (h : -64 ≤ n ∧ n < 64) : lebS m n = [n % 128] := by
 cases m with
 | zero => rw [lebS]
 | succ m => rw [lebS, if_pos h]
set_option maxHeartbeats 4000000 in
theorem putu_some (b off cap len : Nat) (zs : Nat → Int) (hz : ∀ j, 0 ≤ zs j ∧ zs j < 18446744073709551616) (hl : len ≤ 1099511627776) (w : World) (hc : ∀ j, j < len → w.cell? ⟨b, off + j, none⟩ = some (.int .u64 (zs j))) :
  Calls Try.prog 46 #[.slice (some ⟨b, off, none⟩) len cap] w fun e w' => ∃ sv, e = .returned sv ∧ Gr w w' ∧ w'.ownsRow w.heap.size 5 1 sv (forms formU zs len).length (u8s (forms formU zs len)) := by
 have HC := Lib.hid hc
 have HZ := Lib.hid hz
 obtain ⟨i0, hi, hz0, hz1, hz2⟩ := info_parts info8
 have HI := Lib.hid hi
 have HZ0 := Lib.hid hz0
 have HZ1 := Lib.hid hz1
 have HZ2 := Lib.hid hz2
 clear hc hz hi hz0 hz1 hz2
 go_enter Try.func46, Try.ntmps46
 go_wp2_with fail
 go_loopw [3, 8] (fun sv i wr => ∃ k : Nat, k ≤ len ∧ i = .int .i64 k ∧ Gr w wr ∧ wr.ownsRow w.heap.size 5 1 sv (forms formU zs k).length (u8s (forms formU zs k))) (fun _ i _ => len - (intOf i).toNat)
 case atStart => exact ⟨0, by omega, rfl, Gr.refl _, World.ownsRow_nil _ _ _ _⟩
 case round =>
  obtain ⟨k, hk, rfl, hg, hown⟩ := hrel
  have HG := Lib.hid hg
  have HW := Lib.hid hown
  clear hg hown
  by_cases hlt : k < len
  ·have h1 := gr_cell HG.out (HC.out k hlt)
   have hzk := HZ.out k
   have hLl := forms_len (f := formU) (lebU_len 9) zs k
   generalize hn0 : zs k = n0 at *
   have HN0 := Lib.hid hn0
   generalize hL : forms formU zs k = L at *
   have HL := Lib.hid hL
   clear hn0 hL
   go_wp2_with fail
   go_loopw [3, 5] (fun sv nv wr' => ∃ (j : Nat) (D : List Int) (n : Int), j ≤ 9 ∧ D.length = j ∧ nv = .int .u64 n ∧ 0 ≤ n ∧ n * 128 ^ j ≤ n0 ∧ formU n0 = D ++ lebU (9 - j) n ∧ Gr w wr' ∧ wr'.ownsRow w.heap.size 5 1 sv (L ++ D).length (u8s (L ++ D))) (fun _ nv _ => (intOf nv).toNat)
   case atStart => exact ⟨0, [], n0, by decide, rfl, rfl, hzk.1, by simp, rfl, HG.out, by simpa using HW.out⟩
   case round =>
    obtain ⟨j, D, n, hj, hD, rfl, hnn, hnb, hfm, hg, hown⟩ := hrel
    have HG2 := Lib.hid hg
    have HW2 := Lib.hid hown
    have HFm := Lib.hid hfm
    have HD := Lib.hid hD
    have HNb := Lib.hid hnb
    have hLD : (L ++ D).length ≤ 10 * k + 9 := by rw [List.length_append]; omega
    have hn64 : n < 18446744073709551616 := by
     have h1 : 1 * n ≤ 128 ^ j * n := Int.mul_le_mul_of_nonneg_right (show (1 : Int) ≤ 128 ^ j from Int.pow_pos (by decide)) hnn
     rw [Int.mul_comm (128 ^ j)] at h1
     omega
    have hj8 : 127 < n → j ≤ 8 := fun h => by
     by_cases h9 : j = 9
     ·subst h9
      have : n * 128 ^ 9 ≤ n0 := hnb
      have e : (128 : Int) ^ 9 = 9223372036854775808 := rfl
      rw [e] at this
      omega
     ·omega
    have HJ := Lib.hid hj8
    have HLD := Lib.hid hLD
    clear hg hown hfm hD hnb hLD hj8
    by_cases hgt : 127 < n
    ·have hA := and127u n ⟨hnn, hn64⟩
     have HE := Lib.hid (lebU_go (m := 8 - j) hgt)
     have hj8 := HJ.out hgt
     have HLo := Lib.hid (show 0 ≤ n % 128 ∧ n % 128 < 128 by omega)
     generalize hlo : n % 128 = lo at *
     have HLe := Lib.hid hlo
     clear hlo
     have hwl : IntKind.u8.wrap lo = lo := by rw [IntKind.wrap_u8]; have := HLo.out; omega
     have hO := or128 lo HLo.out
     go_wp2_with (at_builtin; refine wpList_append_src rfl _ _ 22 rfl w.heap.size 5 i0 (.int .u8 0) 1 1 Try.underlying22 HI.out HZ0.out HZ1.out HZ2.out rfl (by decide) u3 (L ++ D).length (u8s (L ++ D)) rfl (HW2.out.alloc _) (.slice (some ⟨wr.heap.size, 0, none⟩) 1 1) 1 [.int .u8 (lo + 128)] rfl (src_lit wr #[.int .u8 (lo + 128)] _ 1 1) rfl (fun u hu => by simp at hu; subst hu; rfl) (by unfold maxLen; have := HLD.out; omega) (by have := HLD.out; omega) (by have := HG2.out.size; simp; omega) ?_)
     intro v' w3 hown3 hgb3
     rw [← List.length_append] at hown3
     obtain ⟨hg3, ho3⟩ := own_step HG2.out HW2.out (Nat.le_refl _) _ hgb3 hown3
     have HG3 := Lib.hid hg3
     have HO3 := Lib.hid (show w3.ownsRow w.heap.size 5 1 v' (L ++ (D ++ [lo + 128])).length (u8s (L ++ (D ++ [lo + 128]))) by rw [← List.append_assoc]; exact ho3)
     clear hown3 hgb3 hg3 ho3
     go_wp2
     exact ⟨⟨j + 1, D ++ [lo + 128], n / 128, by omega, by rw [List.length_append, HD.out]; rfl, rfl, by omega, by
      have h1 : n / 128 * 128 ≤ n := by omega
      have h2 := Int.mul_le_mul_of_nonneg_right h1 (show (0 : Int) ≤ 128 ^ j from Int.le_of_lt (Int.pow_pos (by decide)))
      rw [Int.pow_succ, Int.mul_comm (128 ^ j), ← Int.mul_assoc]
      exact Int.le_trans h2 HNb.out, by
      rw [HFm.out, show 9 - j = 8 - j + 1 by omega, HE.out, show 8 - j = 9 - (j + 1) by omega]; simp, HG3.out, HO3.out⟩, by simp [intOf]; omega⟩
    ·have hw8 : IntKind.u8.wrap n = n := by rw [IntKind.wrap_u8]; omega
     have HE := Lib.hid (lebU_end (m := 9 - j) (n := n) ⟨hnn, by omega⟩)
     go_wp2_with (at_builtin; refine wpList_append_src rfl _ _ 22 rfl w.heap.size 5 i0 (.int .u8 0) 1 1 Try.underlying22 HI.out HZ0.out HZ1.out HZ2.out rfl (by decide) u3 (L ++ D).length (u8s (L ++ D)) rfl (HW2.out.alloc _) (.slice (some ⟨wr.heap.size, 0, none⟩) 1 1) 1 [.int .u8 (n)] rfl (src_lit wr #[.int .u8 (n)] _ 1 1) rfl (fun u hu => by simp at hu; subst hu; rfl) (by unfold maxLen; have := HLD.out; omega) (by have := HLD.out; omega) (by have := HG2.out.size; simp; omega) ?_)
     intro v' w3 hown3 hgb3
     rw [← List.length_append] at hown3
     obtain ⟨hg3, ho3⟩ := own_step HG2.out HW2.out (Nat.le_refl _) _ hgb3 hown3
     have HG3 := Lib.hid hg3
     have HO3 := Lib.hid (show w3.ownsRow w.heap.size 5 1 v' (L ++ (D ++ [n])).length (u8s (L ++ (D ++ [n]))) by rw [← List.append_assoc]; exact ho3)
     clear hown3 hgb3 hg3 ho3
     go_wp2
     exact ⟨⟨k + 1, by omega, by go_num, HG3.out, by
      rw [forms, HL.out, HN0.out, HFm.out, HE.out]; exact HO3.out⟩, by simp [intOf]; omega⟩
  ·obtain rfl : len = k := by omega
   go_wp2
   go_ret
   exact ⟨_, rfl, HG.out, HW.out⟩
set_option maxHeartbeats 4000000 in
theorem puts_some (b off cap len : Nat) (zs : Nat → Int) (hz : ∀ j, -9223372036854775808 ≤ zs j ∧ zs j ≤ 9223372036854775807) (hl : len ≤ 1099511627776) (w : World) (hc : ∀ j, j < len → w.cell? ⟨b, off + j, none⟩ = some (.int .i64 (zs j))) :
  Calls Try.prog 47 #[.slice (some ⟨b, off, none⟩) len cap] w fun e w' => ∃ sv, e = .returned sv ∧ Gr w w' ∧ w'.ownsRow w.heap.size 5 1 sv (forms formS zs len).length (u8s (forms formS zs len)) := by
 have HC := Lib.hid hc
 have HZ := Lib.hid hz
 obtain ⟨i0, hi, hz0, hz1, hz2⟩ := info_parts info8
 have HI := Lib.hid hi
 have HZ0 := Lib.hid hz0
 have HZ1 := Lib.hid hz1
 have HZ2 := Lib.hid hz2
 clear hc hz hi hz0 hz1 hz2
 go_enter Try.func47, Try.ntmps47
 go_wp2_with fail
 go_loopw [3, 8] (fun sv i wr => ∃ k : Nat, k ≤ len ∧ i = .int .i64 k ∧ Gr w wr ∧ wr.ownsRow w.heap.size 5 1 sv (forms formS zs k).length (u8s (forms formS zs k))) (fun _ i _ => len - (intOf i).toNat)
 case atStart => exact ⟨0, by omega, rfl, Gr.refl _, World.ownsRow_nil _ _ _ _⟩
 case round =>
  obtain ⟨k, hk, rfl, hg, hown⟩ := hrel
  have HG := Lib.hid hg
  have HW := Lib.hid hown
  clear hg hown
  by_cases hlt : k < len
  ·have h1 := gr_cell HG.out (HC.out k hlt)
   have hzk := HZ.out k
   have hLl := forms_len (f := formS) (lebS_len 9) zs k
   generalize hn0 : zs k = n0 at *
   have HN0 := Lib.hid hn0
   generalize hL : forms formS zs k = L at *
   have HL := Lib.hid hL
   clear hn0 hL
   go_wp2_with fail
   go_loopw [3, 5] (fun sv nv wr' => ∃ (j : Nat) (D : List Int) (n : Int), j ≤ 9 ∧ D.length = j ∧ nv = .int .i64 n ∧ (-9223372036854775808 ≤ n ∧ n ≤ 9223372036854775807) ∧ (n * 128 ^ j ≤ n0 ∧ n0 < (n + 1) * 128 ^ j) ∧ formS n0 = D ++ lebS (9 - j) n ∧ Gr w wr' ∧ wr'.ownsRow w.heap.size 5 1 sv (L ++ D).length (u8s (L ++ D))) (fun _ nv _ => (intOf nv).natAbs)
   case atStart => exact ⟨0, [], n0, by decide, rfl, rfl, hzk, by simp; omega, rfl, HG.out, by simpa using HW.out⟩
   case round =>
    obtain ⟨j, D, n, hj, hD, rfl, hnn, hnb, hfm, hg, hown⟩ := hrel
    have HG2 := Lib.hid hg
    have HW2 := Lib.hid hown
    have HFm := Lib.hid hfm
    have HD := Lib.hid hD
    have HNb := Lib.hid hnb
    have hLD : (L ++ D).length ≤ 10 * k + 9 := by rw [List.length_append]; omega
    have hj8 : ¬ (-64 ≤ n ∧ n < 64) → j ≤ 8 := fun h => by
     by_cases h9 : j = 9
     ·subst h9
      have e : (128 : Int) ^ 9 = 9223372036854775808 := rfl
      rw [e] at hnb
      omega
     ·omega
    have HJ := Lib.hid hj8
    have HLD := Lib.hid hLD
    clear hg hown hfm hD hnb hLD hj8
    by_cases c1 : n < -64
    ·have hgt : ¬ (-64 ≤ n ∧ n < 64) := by omega
     have hA := i64_and127 n
     have HE := Lib.hid (lebS_go (m := 8 - j) hgt)
     have hj8 := HJ.out hgt
     have HLo := Lib.hid (show 0 ≤ n % 128 ∧ n % 128 < 128 by omega)
     generalize hlo : n % 128 = lo at *
     have HLe := Lib.hid hlo
     clear hlo
     have hwl : IntKind.u8.wrap lo = lo := by rw [IntKind.wrap_u8]; have := HLo.out; omega
     have hO := or128 lo HLo.out
     go_wp2_with (at_builtin; refine wpList_append_src rfl _ _ 22 rfl w.heap.size 5 i0 (.int .u8 0) 1 1 Try.underlying22 HI.out HZ0.out HZ1.out HZ2.out rfl (by decide) u3 (L ++ D).length (u8s (L ++ D)) rfl (HW2.out.alloc _) (.slice (some ⟨wr.heap.size, 0, none⟩) 1 1) 1 [.int .u8 (lo + 128)] rfl (src_lit wr #[.int .u8 (lo + 128)] _ 1 1) rfl (fun u hu => by simp at hu; subst hu; rfl) (by unfold maxLen; have := HLD.out; omega) (by have := HLD.out; omega) (by have := HG2.out.size; simp; omega) ?_)
     intro v' w3 hown3 hgb3
     rw [← List.length_append] at hown3
     obtain ⟨hg3, ho3⟩ := own_step HG2.out HW2.out (Nat.le_refl _) _ hgb3 hown3
     have HG3 := Lib.hid hg3
     have HO3 := Lib.hid (show w3.ownsRow w.heap.size 5 1 v' (L ++ (D ++ [lo + 128])).length (u8s (L ++ (D ++ [lo + 128]))) by rw [← List.append_assoc]; exact ho3)
     clear hown3 hgb3 hg3 ho3
     go_wp2
     exact ⟨⟨j + 1, D ++ [lo + 128], n / 128, by omega, by rw [List.length_append, HD.out]; rfl, rfl, by omega, by
      have hp : (0 : Int) < 128 ^ j := Int.pow_pos (by decide)
      have h1 : n / 128 * 128 ≤ n := by omega
      have h2 := Int.mul_le_mul_of_nonneg_right h1 (Int.le_of_lt hp)
      have h3 : n + 1 ≤ (n / 128 + 1) * 128 := by omega
      have h4 := Int.mul_le_mul_of_nonneg_right h3 (Int.le_of_lt hp)
      have h5 := HNb.out
      rw [Int.pow_succ, Int.mul_comm (128 ^ j), ← Int.mul_assoc, ← Int.mul_assoc]
      omega, by
      rw [HFm.out, show 9 - j = 8 - j + 1 by omega, HE.out, show 8 - j = 9 - (j + 1) by omega]; simp, HG3.out, HO3.out⟩, by simp [intOf]; omega⟩
    ·by_cases c2 : 64 ≤ n
     ·have hgt : ¬ (-64 ≤ n ∧ n < 64) := by omega
      have hA := i64_and127 n
      have HE := Lib.hid (lebS_go (m := 8 - j) hgt)
      have hj8 := HJ.out hgt
      have HLo := Lib.hid (show 0 ≤ n % 128 ∧ n % 128 < 128 by omega)
      generalize hlo : n % 128 = lo at *
      have HLe := Lib.hid hlo
      clear hlo
      have hwl : IntKind.u8.wrap lo = lo := by rw [IntKind.wrap_u8]; have := HLo.out; omega
      have hO := or128 lo HLo.out
      go_wp2_with (at_builtin; refine wpList_append_src rfl _ _ 22 rfl w.heap.size 5 i0 (.int .u8 0) 1 1 Try.underlying22 HI.out HZ0.out HZ1.out HZ2.out rfl (by decide) u3 (L ++ D).length (u8s (L ++ D)) rfl (HW2.out.alloc _) (.slice (some ⟨wr.heap.size, 0, none⟩) 1 1) 1 [.int .u8 (lo + 128)] rfl (src_lit wr #[.int .u8 (lo + 128)] _ 1 1) rfl (fun u hu => by simp at hu; subst hu; rfl) (by unfold maxLen; have := HLD.out; omega) (by have := HLD.out; omega) (by have := HG2.out.size; simp; omega) ?_)
      intro v' w3 hown3 hgb3
      rw [← List.length_append] at hown3
      obtain ⟨hg3, ho3⟩ := own_step HG2.out HW2.out (Nat.le_refl _) _ hgb3 hown3
      have HG3 := Lib.hid hg3
      have HO3 := Lib.hid (show w3.ownsRow w.heap.size 5 1 v' (L ++ (D ++ [lo + 128])).length (u8s (L ++ (D ++ [lo + 128]))) by rw [← List.append_assoc]; exact ho3)
      clear hown3 hgb3 hg3 ho3
      go_wp2
      exact ⟨⟨j + 1, D ++ [lo + 128], n / 128, by omega, by rw [List.length_append, HD.out]; rfl, rfl, by omega, by
       have hp : (0 : Int) < 128 ^ j := Int.pow_pos (by decide)
       have h1 : n / 128 * 128 ≤ n := by omega
       have h2 := Int.mul_le_mul_of_nonneg_right h1 (Int.le_of_lt hp)
       have h3 : n + 1 ≤ (n / 128 + 1) * 128 := by omega
       have h4 := Int.mul_le_mul_of_nonneg_right h3 (Int.le_of_lt hp)
       have h5 := HNb.out
       rw [Int.pow_succ, Int.mul_comm (128 ^ j), ← Int.mul_assoc, ← Int.mul_assoc]
       omega, by
       rw [HFm.out, show 9 - j = 8 - j + 1 by omega, HE.out, show 8 - j = 9 - (j + 1) by omega]; simp, HG3.out, HO3.out⟩, by simp [intOf]; omega⟩
     ·skip
      have hA := i64_and127 n
      have HE := Lib.hid (lebS_end (m := 9 - j) (n := n) ⟨by omega, by omega⟩)
      have HLo := Lib.hid (show 0 ≤ n % 128 ∧ n % 128 < 128 by omega)
      generalize hlo : n % 128 = lo at *
      have hwl : IntKind.u8.wrap lo = lo := by rw [IntKind.wrap_u8]; have := HLo.out; omega
      clear hlo
      go_wp2_with (at_builtin; refine wpList_append_src rfl _ _ 22 rfl w.heap.size 5 i0 (.int .u8 0) 1 1 Try.underlying22 HI.out HZ0.out HZ1.out HZ2.out rfl (by decide) u3 (L ++ D).length (u8s (L ++ D)) rfl (HW2.out.alloc _) (.slice (some ⟨wr.heap.size, 0, none⟩) 1 1) 1 [.int .u8 (lo)] rfl (src_lit wr #[.int .u8 (lo)] _ 1 1) rfl (fun u hu => by simp at hu; subst hu; rfl) (by unfold maxLen; have := HLD.out; omega) (by have := HLD.out; omega) (by have := HG2.out.size; simp; omega) ?_)
      intro v' w3 hown3 hgb3
      rw [← List.length_append] at hown3
      obtain ⟨hg3, ho3⟩ := own_step HG2.out HW2.out (Nat.le_refl _) _ hgb3 hown3
      have HG3 := Lib.hid hg3
      have HO3 := Lib.hid (show w3.ownsRow w.heap.size 5 1 v' (L ++ (D ++ [lo])).length (u8s (L ++ (D ++ [lo]))) by rw [← List.append_assoc]; exact ho3)
      clear hown3 hgb3 hg3 ho3
      go_wp2
      exact ⟨⟨k + 1, by omega, by go_num, HG3.out, by
       rw [forms, HL.out, HN0.out, HFm.out, HE.out]; exact HO3.out⟩, by simp [intOf]; omega⟩
  ·obtain rfl : len = k := by omega
   go_wp2
   go_ret
   exact ⟨_, rfl, HG.out, HW.out⟩
theorem putu_zero (a : Option Addr) (c : Nat) (w : World) : Calls Try.prog 46 #[.slice a 0 c] w fun e w' => e = .returned (.slice none 0 0) ∧ Gr w w' := by
 go_enter Try.func46, Try.ntmps46
 go_wp2_with fail
 refine wp_loop_rounds 1 ?_
 rw [rounds_succ]
 go_wp2
 go_ret
 exact ⟨rfl, Gr.refl _⟩
theorem putu_any (sv : Value) (len : Nat) (zs : Nat → Int) (hz : ∀ j, 0 ≤ zs j ∧ zs j < 18446744073709551616) (hl : len ≤ 1099511627776) (w : World) (h : Ks .u64 w sv len zs) :
  Calls Try.prog 46 #[sv] w fun e w' => ∃ sv, e = .returned sv ∧ Gr w w' ∧ w'.ownsRow w.heap.size 5 1 sv (forms formU zs len).length (u8s (forms formU zs len)) := by
 rcases h with ⟨rfl, x, c, rfl⟩ | ⟨_, b, off, c, rfl, hc⟩
 ·exact (putu_zero x c w).mono fun e w' h => ⟨_, h.1, h.2, World.ownsRow_nil _ _ _ _⟩
 ·exact putu_some b off c len zs hz hl w hc
theorem puts_zero (a : Option Addr) (c : Nat) (w : World) : Calls Try.prog 47 #[.slice a 0 c] w fun e w' => e = .returned (.slice none 0 0) ∧ Gr w w' := by
 go_enter Try.func47, Try.ntmps47
 go_wp2_with fail
 refine wp_loop_rounds 1 ?_
 rw [rounds_succ]
 go_wp2
 go_ret
 exact ⟨rfl, Gr.refl _⟩
theorem puts_any (sv : Value) (len : Nat) (zs : Nat → Int) (hz : ∀ j, -9223372036854775808 ≤ zs j ∧ zs j ≤ 9223372036854775807) (hl : len ≤ 1099511627776) (w : World) (h : Ks .i64 w sv len zs) :
  Calls Try.prog 47 #[sv] w fun e w' => ∃ sv, e = .returned sv ∧ Gr w w' ∧ w'.ownsRow w.heap.size 5 1 sv (forms formS zs len).length (u8s (forms formS zs len)) := by
 rcases h with ⟨rfl, x, c, rfl⟩ | ⟨_, b, off, c, rfl, hc⟩
 ·exact (puts_zero x c w).mono fun e w' h => ⟨_, h.1, h.2, World.ownsRow_nil _ _ _ _⟩
 ·exact puts_some b off c len zs hz hl w hc
end Go.Proofs.Ytebkabidojipoaa
