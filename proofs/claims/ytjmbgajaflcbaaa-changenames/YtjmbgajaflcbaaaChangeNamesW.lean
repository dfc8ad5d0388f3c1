/- The walk of ChangeNames. -/
import Derived.Test.YtjmbgajaflcbaaaChgA
namespace Go.Proofs.Ytjmbgajaflcbaaa.changeNames
open Go.RowKit
open Chg

theorem walk (w : World) : Calls Try.prog 3 #[] w fun e w' => e = .returned (.bool true) ∧ Below w.heap.size w w' := by
  have heq := eq_view
  go_enter Try.func3, Try.ntmps3
  go_wp2_with fail
  refine (of_c _ 1 1 [6] rfl (by omega) none 0 0 [] rfl (by omega) (w.heap.size + 1) _ (rdI_any w [6]) Rd.nil (by simp)).mono ?_
  rw [show ofF [6] [] = none from by decide]
  rintro e w1 ⟨rfl, hb1⟩
  have HB1 := Lib.hid ((bal (Below.refl _ _) (Nat.le_refl _) _).trans (hb1.mono (by simp <;> omega))); clear hb1
  have hge : ge none = 41 := rfl
  have hgv : gv none = (0, 0) := rfl
  unfold vw
  rw [hgv]
  clear hgv
  go_wp2_with fail
  refine (alive_c _).mono ?_
  rintro e w2 ⟨rfl, hb2⟩
  have HB2 := Lib.hid ((bal HB1.out (Nat.le_refl _) _).trans (hb2.mono (by have := HB1.out.size; simp <;> omega))); clear hb2
  go_wp2_with fail
  refine (join_c none 0 0 [] rfl (by omega) (by simp) 0 _ (fun h => absurd h (by simp)) (Nat.zero_le _)).mono ?_
  rw [show joinF [] = (0, 0) from by decide]
  rintro e w3 ⟨rfl, hb3⟩
  have HB3 := Lib.hid (HB2.out.trans (hb3.mono HB2.out.size)); clear hb3
  unfold vw
  go_wp2
  go_ret
  exact ⟨rfl, HB3.out⟩
end Go.Proofs.Ytjmbgajaflcbaaa.changeNames
