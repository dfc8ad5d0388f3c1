/- The walk of ViewNames. -/
import Derived.Test.YtofjdfnoibfdfaaVwF
import Derived.Test.YtofjdfnoibfdfaaVwA
namespace Go.Proofs.Ytofjdfnoibfdfaa.viewNames
open Go.RowKit
open Chg Vw

set_option maxHeartbeats 1000000 in
theorem walk (w : World) : Calls Try.prog 3 #[] w fun e w' => e = .returned (.bool true) ∧ Below w.heap.size w w' := by
  have heq := eq_view
  go_enter Try.func3, Try.ntmps3
  go_wp2_with fail
  refine (alive_c _).mono ?_
  rintro e w1 ⟨rfl, hb1⟩
  have HB := Lib.hid hb1; clear hb1
  go_wp2_with fail
  refine (alike_c none 0 0 [] rfl (by omega) (by simp) 0 _ (fun h => absurd h (by simp)) (Nat.zero_le _)).mono ?_
  rw [show alike [] = true from rfl]
  rintro e w2 ⟨rfl, hb2⟩
  have HB := Lib.hid (HB.out.trans (hb2.mono HB.out.size)); clear hb2
  go_wp2_with fail
  refine (top_c none 0 0 [] rfl (by omega) (by simp) 0 _ (fun h => absurd h (by simp)) (Nat.zero_le _)).mono ?_
  rw [show top [] = (0, 0) from rfl]
  rintro e w3 ⟨rfl, hb3⟩
  have HB := Lib.hid (HB.out.trans (hb3.mono HB.out.size)); clear hb3
  unfold vw
  go_wp2_with fail
  refine (enough_c 0 0 (by omega) (by omega) _ 2 2 [0, 1] rfl (by omega) _ _ (rdI_any w3 [0, 1]) (by simp)).mono ?_
  rw [show enough 0 0 [0, 1] = false from by decide +kernel]
  rintro e w4 ⟨rfl, hb4⟩
  have HB := Lib.hid ((bal HB.out (Nat.le_refl _) _).trans (hb4.mono (bal HB.out (Nat.le_refl _) _).size)); clear hb4
  go_wp2_with fail
  refine (in_c 63 0 (by omega) (by omega) 6 (by omega) _).mono ?_
  rw [show inN 63 0 6 = false from by decide +kernel]
  rintro e w5 ⟨rfl, hb5⟩
  have HB := Lib.hid (HB.out.trans (hb5.mono HB.out.size)); clear hb5
  go_wp2
  go_ret
  exact ⟨rfl, HB.out⟩
end Go.Proofs.Ytofjdfnoibfdfaa.viewNames
