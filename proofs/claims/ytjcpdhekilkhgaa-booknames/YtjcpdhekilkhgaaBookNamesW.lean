/- The walk of BookNames. -/
import Derived.Test.YtjcpdhekilkhgaaBkA
namespace Go.Proofs.Ytjcpdhekilkhgaa.bookNames
open Go.RowKit
open Tg Bk Bkw
open Tgw (bal hat hbe ret_bool tv)

theorem gn : getF [] 4 = zero 0 := by kernel_rfl
theorem gk : getN 4 = 71 := by kernel_rfl
set_option maxHeartbeats 1000000 in
theorem walk (w : World) : Calls Try.prog 3 #[] w fun e w' => e = .returned (.bool true) ∧ Below w.heap.size w w' := by
  have hsf := store_flt
  go_enter Try.func3, Try.ntmps3
  go_wp2_with fail
  refine (get_c none 0 0 [] 4 (by unfold I64; omega) _ (So.nil _) rfl).mono ?_
  rw [gn, gk]
  rintro e w2 ⟨rfl, hb⟩
  have HB := Lib.hid hb; clear hb
  unfold ev zero
  go_wp2_with fail
  have HB := Lib.hid (bal HB.out (Nat.le_refl _) (.cells #[.int .i64 0, .int .i64 0, .int .i64 0, .float .f64 0] 26))
  generalize w2.alloc (.cells #[.int .i64 0, .int .i64 0, .int .i64 0, .float .f64 0] 26) = w3 at HB ⊢
  refine (alive_c _).mono ?_
  rintro e w4 ⟨rfl, hb⟩
  have HB := Lib.hid (HB.out.trans (hb.mono HB.out.size)); clear hb
  go_wp2_with fail
  refine (check_c none 0 0 [] _ (So.nil _)).mono ?_
  rw [show chkN [] = 0 from rfl]
  rintro e w5 ⟨rfl, hb⟩
  have HB := Lib.hid (HB.out.trans (hb.mono HB.out.size)); clear hb
  go_wp2
  go_ret
  exact ⟨rfl, HB.out⟩
end Go.Proofs.Ytjcpdhekilkhgaa.bookNames
