/-
  Of layer 6's laws: two, not, cmp; awake. Conditions: bytes.
-/
import Derived.Test.YtdclbagfnabmkaaCpBits
import Derived.Test.YtdclbagfnabmkaaCpTest
import Derived.Test.YtdclbagfnabmkaaOf
namespace Go.Proofs.Ytdclbagfnabmkaa
open Go.RowKit VecM
namespace Cp
abbrev bs2 (a b : Nat → Int) : Array Value := #[.int .u8 (a 0), .int .u8 (a 1), .int .u8 (a 2), .int .u8 (a 3), .int .u8 (a 4), .int .u8 (a 5), .int .u8 (a 6), .int .u8 (a 7), .int .u8 (a 8), .int .u8 (a 9), .int .u8 (a 10), .int .u8 (a 11), .int .u8 (a 12), .int .u8 (a 13), .int .u8 (a 14), .int .u8 (a 15), .int .u8 (b 0), .int .u8 (b 1), .int .u8 (b 2), .int .u8 (b 3), .int .u8 (b 4), .int .u8 (b 5), .int .u8 (b 6), .int .u8 (b 7), .int .u8 (b 8), .int .u8 (b 9), .int .u8 (b 10), .int .u8 (b 11), .int .u8 (b 12), .int .u8 (b 13), .int .u8 (b 14), .int .u8 (b 15)]
abbrev bs3 (a b c : Nat → Int) : Array Value := #[.int .u8 (a 0), .int .u8 (a 1), .int .u8 (a 2), .int .u8 (a 3), .int .u8 (a 4), .int .u8 (a 5), .int .u8 (a 6), .int .u8 (a 7), .int .u8 (a 8), .int .u8 (a 9), .int .u8 (a 10), .int .u8 (a 11), .int .u8 (a 12), .int .u8 (a 13), .int .u8 (a 14), .int .u8 (a 15), .int .u8 (b 0), .int .u8 (b 1), .int .u8 (b 2), .int .u8 (b 3), .int .u8 (b 4), .int .u8 (b 5), .int .u8 (b 6), .int .u8 (b 7), .int .u8 (b 8), .int .u8 (b 9), .int .u8 (b 10), .int .u8 (b 11), .int .u8 (b 12), .int .u8 (b 13), .int .u8 (b 14), .int .u8 (b 15), .int .u8 (c 0), .int .u8 (c 1), .int .u8 (c 2), .int .u8 (c 3), .int .u8 (c 4), .int .u8 (c 5), .int .u8 (c 6), .int .u8 (c 7), .int .u8 (c 8), .int .u8 (c 9), .int .u8 (c 10), .int .u8 (c 11), .int .u8 (c 12), .int .u8 (c 13), .int .u8 (c 14), .int .u8 (c 15)]
def BB2 (a b : Nat → Int) (k : Nat) : Nat → Int := if k = 0 then a else b
def BB3 (a b c : Nat → Int) (k : Nat) : Nat → Int := if k = 0 then a else if k = 1 then b else c
theorem at1 {w0 w : World} {M : List Ent} (hS : St w0 M w) {g : Nat} {a : Nat → Int} (hm : Has M g (bs a) 23) : VecsAt w g 0 1 (fun _ => a) := by
  intro k hk m hm'
  obtain rfl : k = 0 := by omega
  simp only [Nat.zero_mul, Nat.zero_add]
  rw [hS.cell hm m]
  exact bs_get a m hm'
theorem bs2_get (a b : Nat → Int) (k m : Nat) (hk : k < 2) (hm : m < 16) : (bs2 a b)[k * 16 + m]? = some (.int .u8 (BB2 a b k m)) := by
  match k, hk with
  | 0, _ =>
    match m, hm with
    | 0, _ => rfl
    | 1, _ => rfl
    | 2, _ => rfl
    | 3, _ => rfl
    | 4, _ => rfl
    | 5, _ => rfl
    | 6, _ => rfl
    | 7, _ => rfl
    | 8, _ => rfl
    | 9, _ => rfl
    | 10, _ => rfl
    | 11, _ => rfl
    | 12, _ => rfl
    | 13, _ => rfl
    | 14, _ => rfl
    | 15, _ => rfl
    | m + 16, h => exact absurd h (by omega)
  | 1, _ =>
    match m, hm with
    | 0, _ => rfl
    | 1, _ => rfl
    | 2, _ => rfl
    | 3, _ => rfl
    | 4, _ => rfl
    | 5, _ => rfl
    | 6, _ => rfl
    | 7, _ => rfl
    | 8, _ => rfl
    | 9, _ => rfl
    | 10, _ => rfl
    | 11, _ => rfl
    | 12, _ => rfl
    | 13, _ => rfl
    | 14, _ => rfl
    | 15, _ => rfl
    | m + 16, h => exact absurd h (by omega)
  | k + 2, h => exact absurd h (by omega)
theorem bs3_get (a b c : Nat → Int) (k m : Nat) (hk : k < 3) (hm : m < 16) : (bs3 a b c)[k * 16 + m]? = some (.int .u8 (BB3 a b c k m)) := by
  match k, hk with
  | 0, _ =>
    match m, hm with
    | 0, _ => rfl
    | 1, _ => rfl
    | 2, _ => rfl
    | 3, _ => rfl
    | 4, _ => rfl
    | 5, _ => rfl
    | 6, _ => rfl
    | 7, _ => rfl
    | 8, _ => rfl
    | 9, _ => rfl
    | 10, _ => rfl
    | 11, _ => rfl
    | 12, _ => rfl
    | 13, _ => rfl
    | 14, _ => rfl
    | 15, _ => rfl
    | m + 16, h => exact absurd h (by omega)
  | 1, _ =>
    match m, hm with
    | 0, _ => rfl
    | 1, _ => rfl
    | 2, _ => rfl
    | 3, _ => rfl
    | 4, _ => rfl
    | 5, _ => rfl
    | 6, _ => rfl
    | 7, _ => rfl
    | 8, _ => rfl
    | 9, _ => rfl
    | 10, _ => rfl
    | 11, _ => rfl
    | 12, _ => rfl
    | 13, _ => rfl
    | 14, _ => rfl
    | 15, _ => rfl
    | m + 16, h => exact absurd h (by omega)
  | 2, _ =>
    match m, hm with
    | 0, _ => rfl
    | 1, _ => rfl
    | 2, _ => rfl
    | 3, _ => rfl
    | 4, _ => rfl
    | 5, _ => rfl
    | 6, _ => rfl
    | 7, _ => rfl
    | 8, _ => rfl
    | 9, _ => rfl
    | 10, _ => rfl
    | 11, _ => rfl
    | 12, _ => rfl
    | 13, _ => rfl
    | 14, _ => rfl
    | 15, _ => rfl
    | m + 16, h => exact absurd h (by omega)
  | k + 3, h => exact absurd h (by omega)
theorem at2 {w0 w : World} {M : List Ent} (hS : St w0 M w) {g : Nat} {a b : Nat → Int} (hm : Has M g (bs2 a b) 23) : VecsAt w g 0 2 (BB2 a b) := by
  intro k hk m hm'
  rw [Nat.zero_add, hS.cell hm]
  exact bs2_get a b k m hk hm'
theorem at3 {w0 w : World} {M : List Ent} (hS : St w0 M w) {g : Nat} {a b c : Nat → Int} (hm : Has M g (bs3 a b c) 23) : VecsAt w g 0 3 (BB3 a b c) := by
  intro k hk m hm'
  rw [Nat.zero_add, hS.cell hm]
  exact bs3_get a b c k m hk hm'
/-- what the bits' instructions make of two vectors -/
def bw (op : Int) (a b : Nat → Int) : Nat → Int := fun m => if op = 64846 then bits .and .u8 (a m) (b m) else if op = 64847 then bits .andNot .u8 (a m) (b m) else if op = 64848 then bits .or .u8 (a m) (b m) else bits .xor .u8 (a m) (b m)
def nt (a : Nat → Int) : Nat → Int := fun m => notB (a m)
def sl (a b c : Nat → Int) : Nat → Int := fun m => bits .or .u8 (bits .and .u8 (a m) (c m)) (bits .andNot .u8 (b m) (c m))
theorem bits2 (op : Int) (hop : op = 64846 ∨ op = 64847 ∨ op = 64848 ∨ op = 64849) {w0 w : World} {M : List Ent} (hS : St w0 M w) {g : Nat} {a b : Nat → Int} (hm : Has M g (bs2 a b) 23) :
    Calls Try.prog 15 #[.int .i64 op, .slice (some ⟨g, 0, none⟩) 2 2] w fun e w' => e = .returned (.tuple #[.agg (bs (bw op a b)), .int .i64 0]) ∧ Gr w w' := by
  have h := at2 hS hm
  rcases hop with rfl | rfl | rfl | rfl
  · have h2 := bits_and g 0 2 _ w h
    rw [show (fun m => bits .and .u8 (BB2 a b 0 m) (BB2 a b 1 m)) = bw 64846 a b from by funext m; simp [bw, BB2]] at h2
    exact h2
  · have h2 := bits_andnot g 0 2 _ w h
    rw [show (fun m => bits .andNot .u8 (BB2 a b 0 m) (BB2 a b 1 m)) = bw 64847 a b from by funext m; simp [bw, BB2]] at h2
    exact h2
  · have h2 := bits_or g 0 2 _ w h
    rw [show (fun m => bits .or .u8 (BB2 a b 0 m) (BB2 a b 1 m)) = bw 64848 a b from by funext m; simp [bw, BB2]] at h2
    exact h2
  · have h2 := bits_xor g 0 2 _ w h
    rw [show (fun m => bits .xor .u8 (BB2 a b 0 m) (BB2 a b 1 m)) = bw 64849 a b from by funext m; simp [bw, BB2]] at h2
    exact h2
theorem bits1 {w0 w : World} {M : List Ent} (hS : St w0 M w) {g : Nat} {a : Nat → Int} (hm : Has M g (bs a) 23) :
    Calls Try.prog 15 #[.int .i64 64845, .slice (some ⟨g, 0, none⟩) 1 1] w fun e w' => e = .returned (.tuple #[.agg (bs (nt a)), .int .i64 0]) ∧ Gr w w' := by
  have h2 := bits_not g 0 1 _ w (at1 hS hm)
  rw [show (fun m => notB ((fun _ => a) 0 m)) = nt a from rfl] at h2
  exact h2
theorem bits3 {w0 w : World} {M : List Ent} (hS : St w0 M w) {g : Nat} {a b c : Nat → Int} (hm : Has M g (bs3 a b c) 23) :
    Calls Try.prog 15 #[.int .i64 64850, .slice (some ⟨g, 0, none⟩) 3 3] w fun e w' => e = .returned (.tuple #[.agg (bs (sl a b c)), .int .i64 0]) ∧ Gr w w' := by
  have h2 := bits_sel g 0 3 _ w (at3 hS hm)
  rw [show (fun m => bits .or .u8 (bits .and .u8 (BB3 a b c 0 m) (BB3 a b c 2 m)) (bits .andNot .u8 (BB3 a b c 1 m) (BB3 a b c 2 m))) = sl a b c from by funext m; simp [sl, BB3]] at h2
  exact h2
set_option maxHeartbeats 2000000 in
theorem two_any (o : Int) (ho : o = 78 ∨ o = 79 ∨ o = 80 ∨ o = 81) (a b : Nat → Int) (w : World) :
    Calls Try.prog 19 #[.int .i64 o, .agg (bs a), .agg (bs b)] w fun e w' => e = .returned (.agg (bs (bw (64768 + o) a b))) ∧ Gr w w' := by
  have hwr : IntKind.i64.wrap (64768 + o) = 64768 + o := IntWalk.i64_in _ ⟨by omega, by omega⟩
  have hop : 64768 + o = 64846 ∨ 64768 + o = 64847 ∨ 64768 + o = 64848 ∨ 64768 + o = 64849 := by omega
  have HO := Lib.hid hop
  have hob : 0 ≤ o ∧ o ≤ 100 := by omega
  clear hop ho
  obtain ⟨r, hr⟩ : ∃ r, r = bw (64768 + o) a b := ⟨_, rfl⟩
  rw [← hr]
  have HR := Lib.hid hr
  clear hr
  have hS := St.start w
  go_enter Try.func19, Try.ntmps19
  go_upto_region 1 with (first | (refine sl_load hS rfl 23 _ rfl rfl (by repeat (first | exact Has.hd | apply Has.tl)) Try.underlying23 rfl (by exact infoV) ?_) | (refine sl_store hS rfl 23 _ _ rfl rfl rfl (by repeat (first | exact Rep.hd | apply Rep.tl)) (by exact infoV) (by rfl) (bs_one _) ?_; clear hS; intro wk hS) | (refine sl_box hS rfl _ 23 (box_vec rfl rfl) ?_; clear hS; intro bk wk hS) | (refine sl_box hS rfl _ 23 (alloc_vec rfl) ?_; clear hS; intro bk wk hS) | (refine onlyN_end ?_) | (refine onlyN_now ?_))
  refine wp_region_lit ?_
  iterate 2 (refine wpList_plain rfl fun K hK => ?_; go_simp; refine hK _ _ ?_; clear hK K)
  refine sl_load hS rfl 23 _ rfl rfl (by repeat (first | exact Has.hd | apply Has.tl)) Try.underlying23 rfl (by exact infoV) ?_
  refine sl_load hS rfl 23 _ rfl rfl (by repeat (first | exact Has.hd | apply Has.tl)) Try.underlying23 rfl (by exact infoV) ?_
  refine sl_new hS rfl (bs2 a b) 23 (fun b => .slice (some ⟨b, 0, none⟩) 2 2) (by intro w; go_simp) ?_
  clear hS
  intro bn wk hS
  have hc := bits2 _ HO.out (a := a) (b := b) hS Has.hd
  rw [← HR.out] at hc
  have HC := Lib.hid hc
  clear hc
  go_wp2_with (first | (refine sl_load hS rfl 23 _ rfl rfl (by repeat (first | exact Has.hd | apply Has.tl)) Try.underlying23 rfl (by exact infoV) ?_) | (refine sl_store hS rfl 23 _ _ rfl rfl rfl (by repeat (first | exact Rep.hd | apply Rep.tl)) (by exact infoV) (by rfl) (bs_one _) ?_; clear hS; intro wk hS) | (refine sl_box hS rfl _ 23 (box_vec rfl rfl) ?_; clear hS; intro bk wk hS) | (refine sl_box hS rfl _ 23 (alloc_vec rfl) ?_; clear hS; intro bk wk hS) | (refine onlyN_end ?_) | (refine onlyN_now ?_) | ((go_at_call 15); (with_reducible refine sl_call hS HC.out ?_); clear hS; intro wk hS))
  refine sl_ret hS Try.results19 (by rfl) (by repeat (first | exact Has.hd | apply Has.tl)) Try.underlying23 rfl (by exact infoV) (by rfl) ?_
  exact ⟨rfl, hS.gr⟩
set_option maxHeartbeats 2000000 in
theorem not_any (a : Nat → Int) (w : World) :
    Calls Try.prog 17 #[.agg (bs a)] w fun e w' => e = .returned (.agg (bs (nt a))) ∧ Gr w w' := by
  obtain ⟨r, hr⟩ : ∃ r, r = nt a := ⟨_, rfl⟩
  rw [← hr]
  have HR := Lib.hid hr
  clear hr
  have hS := St.start w
  go_enter Try.func17, Try.ntmps17
  go_upto_region 1 with (first | (refine sl_load hS rfl 23 _ rfl rfl (by repeat (first | exact Has.hd | apply Has.tl)) Try.underlying23 rfl (by exact infoV) ?_) | (refine sl_store hS rfl 23 _ _ rfl rfl rfl (by repeat (first | exact Rep.hd | apply Rep.tl)) (by exact infoV) (by rfl) (bs_one _) ?_; clear hS; intro wk hS) | (refine sl_box hS rfl _ 23 (box_vec rfl rfl) ?_; clear hS; intro bk wk hS) | (refine sl_box hS rfl _ 23 (alloc_vec rfl) ?_; clear hS; intro bk wk hS) | (refine onlyN_end ?_) | (refine onlyN_now ?_))
  refine wp_region_lit ?_
  refine sl_load hS rfl 23 _ rfl rfl (by repeat (first | exact Has.hd | apply Has.tl)) Try.underlying23 rfl (by exact infoV) ?_
  refine sl_new hS rfl (bs a) 23 (fun b => .slice (some ⟨b, 0, none⟩) 1 1) (by intro w; go_simp) ?_
  clear hS
  intro bn wk hS
  have hc := bits1 (a := a) hS Has.hd
  rw [← HR.out] at hc
  have HC := Lib.hid hc
  clear hc
  go_wp2_with (first | (refine sl_load hS rfl 23 _ rfl rfl (by repeat (first | exact Has.hd | apply Has.tl)) Try.underlying23 rfl (by exact infoV) ?_) | (refine sl_store hS rfl 23 _ _ rfl rfl rfl (by repeat (first | exact Rep.hd | apply Rep.tl)) (by exact infoV) (by rfl) (bs_one _) ?_; clear hS; intro wk hS) | (refine sl_box hS rfl _ 23 (box_vec rfl rfl) ?_; clear hS; intro bk wk hS) | (refine sl_box hS rfl _ 23 (alloc_vec rfl) ?_; clear hS; intro bk wk hS) | (refine onlyN_end ?_) | (refine onlyN_now ?_) | ((go_at_call 15); (with_reducible refine sl_call hS HC.out ?_); clear hS; intro wk hS))
  refine sl_ret hS Try.results17 (by rfl) (by repeat (first | exact Has.hd | apply Has.tl)) Try.underlying23 rfl (by exact infoV) (by rfl) ?_
  exact ⟨rfl, hS.gr⟩
set_option maxHeartbeats 2000000 in
theorem cmpl_any (op : Int) (ho : -9223372036854775808 ≤ op ∧ op ≤ 9223372036854775807) (a b : Nat → Int) (ha : Byt a) (hb : Byt b) (w : World) :
    Calls Try.prog 18 #[.int .i64 op, .agg (bs a), .agg (bs b)] w fun e w' => e = .returned (.agg (bs (cpV op a b))) ∧ Gr w w' := by
  have hc := fun w => cmp_any op ho a b ha hb w
  generalize (if cW op = 0 then (1 : Int) else 0) = er at hc
  have HC := Lib.hid hc
  clear hc ho ha hb
  generalize cpV op a b = r at *
  have hS := St.start w
  go_enter Try.func18, Try.ntmps18
  go_wp2_with (first | (refine sl_load hS rfl 23 _ rfl rfl (by repeat (first | exact Has.hd | apply Has.tl)) Try.underlying23 rfl (by exact infoV) ?_) | (refine sl_store hS rfl 23 _ _ rfl rfl rfl (by repeat (first | exact Rep.hd | apply Rep.tl)) (by exact infoV) (by rfl) (bs_one _) ?_; clear hS; intro wk hS) | (refine sl_box hS rfl _ 23 (box_vec rfl rfl) ?_; clear hS; intro bk wk hS) | (refine sl_box hS rfl _ 23 (alloc_vec rfl) ?_; clear hS; intro bk wk hS) | (refine onlyN_end ?_) | (refine onlyN_now ?_) | ((go_at_call 11); (with_reducible refine sl_call hS (HC.out _) ?_); clear hS; intro wk hS))
  refine sl_ret hS Try.results18 (by rfl) (by repeat (first | exact Has.hd | apply Has.tl)) Try.underlying23 rfl (by exact infoV) (by rfl) ?_
  exact ⟨rfl, hS.gr⟩
end Cp
end Go.Proofs.Ytdclbagfnabmkaa
