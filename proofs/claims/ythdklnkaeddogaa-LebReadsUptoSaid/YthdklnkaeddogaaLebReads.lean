/-
  LebReads: every U and S, of any bytes, place and number of bits, is the document's.
-/
import Derived.Test.YthdklnkaeddogaaLebRUS
namespace Go.Proofs.Ythdklnkaeddogaa
open Go.RowKit LebM
set_option maxRecDepth 100000 in
set_option maxHeartbeats 4000000 in
theorem reads_walk (sv : Value) (l : List Int) (hl : ∀ x ∈ l, 0 ≤ x ∧ x < 256) (hll : l.length ≤ 1048576) (a bits : Int) (w : World) (hu : U8s w sv l.length (lst l)) :
    Calls Try.prog 3 #[sv, .int .i64 a, .int .i64 bits] w fun e w' => e = .returned (.bool true) ∧ Gr w w' := by
  have hby := lst_by hl
  have HU := Lib.hid (show ∀ w, U8s w sv l.length (lst l) → _ from fun w h => u_any sv l.length (lst l) hby a bits w h)
  have HR := Lib.hid (show ∀ w, U8s w sv l.length (lst l) → _ from fun w h => ru_any sv l.length hll (lst l) hby a bits w h)
  have HS := Lib.hid (show ∀ w, U8s w sv l.length (lst l) → _ from fun w h => s_any sv l.length (lst l) hby a bits w h)
  have HT := Lib.hid (show ∀ w, U8s w sv l.length (lst l) → _ from fun w h => rs_any sv l.length hll (lst l) hby a bits w h)
  generalize sval (LebM.read true (lst l) l.length a bits).1 (LebM.read true (lst l) l.length a bits).2.1 = v at *
  generalize (LebM.read true (lst l) l.length a bits).2.2.1 = t at *
  generalize (LebM.read true (lst l) l.length a bits).2.2.2 = q at *
  generalize (LebM.read false (lst l) l.length a bits).1 = v' at *
  generalize (LebM.read false (lst l) l.length a bits).2.2.1 = t' at *
  generalize (LebM.read false (lst l) l.length a bits).2.2.2 = q' at *
  have HB := Lib.hid hu
  clear hu hby hl hll
  go_enter Try.func3, Try.ntmps3
  go_upto_region 3 with (go_at_call 10; refine (awake_any _).mono ?_; rintro e w1 ⟨rfl, hg1⟩; have HG1 := Lib.hid hg1; clear hg1)
  go_upto_region 4 with (go_at_call 11; refine (HU.out _ (u8s_gr HB.out HG1.out)).mono ?_; rintro e w2 ⟨rfl, rfl⟩)
  go_upto_region 5 with (go_at_call 12; refine (HR.out _ (u8s_gr HB.out HG1.out)).mono ?_; rintro e w3 ⟨rfl, hg3⟩; have HG3 := Lib.hid (gr_trans HG1.out hg3); clear hg3)
  go_upto_region 6 with (go_at_call 13; refine (HS.out _ (u8s_gr HB.out HG3.out)).mono ?_; rintro e w4 ⟨rfl, rfl⟩)
  go_upto_region 7 with (go_at_call 14; refine (HT.out _ (u8s_gr HB.out HG3.out)).mono ?_; rintro e w5 ⟨rfl, hg5⟩; have HG5 := Lib.hid (gr_trans HG3.out hg5); clear hg5)
  go_wp2
  go_ret
  exact ⟨rfl, HG5.out⟩
end Go.Proofs.Ythdklnkaeddogaa
