/- What changeAlive answers: true. -/
import Derived.Test.YtjmbgajaflcbaaaChgC
import Derived.Test.YtjmbgajaflcbaaaChgW
namespace Go.Proofs.Ytjmbgajaflcbaaa
open Go.RowKit
open Chg

theorem alive_of : ofF [0, 2] [1] = some (5, 2) := by decide
theorem alive_cnt : cnt 5 + cnt 2 = 3 := by decide

theorem alive_c (w : World) : Calls Try.prog 10 #[] w fun e w' => e = .returned (.bool true) ∧ Below w.heap.size w w' := by
  have heq := eq_view
  go_enter Try.func10, Try.ntmps10
  go_wp2_with fail
  refine (of_c _ 2 2 [0, 2] rfl (by omega) _ 1 1 [1] rfl (by omega) (w.heap.size + 1 + 1) _ (((rdI_any w [0, 2]).below ((Below.refl _ _).alloc (by simp) _)).more (by omega)) ((rdI_at (w.alloc _) [1] (w.heap.size + 1) (by simp)).more (by simp)) (by simp)).mono ?_
  rw [alive_of]
  rintro e w1 ⟨rfl, hb1⟩
  have HB1 := Lib.hid ((bal (bal (Below.refl _ _) (Nat.le_refl _) _) (Nat.le_refl _) _).trans (hb1.mono (by simp <;> omega))); clear hb1
  have hge : ge (some (5, 2)) = 0 := rfl
  have hgv : gv (some (5, 2)) = (5, 2) := rfl
  unfold vw
  rw [hgv]
  clear hgv
  go_wp2_with fail
  have HV := Lib.hid (show Vx (w1.alloc (.cells #[.int .i64 5, .int .i64 2] 23)) w1.heap.size 5 2 from hat _ _ _ rfl)
  have HB := Lib.hid (bal HB1.out (Nat.le_refl _) (.cells #[.int .i64 5, .int .i64 2] 23))
  generalize w1.alloc (.cells #[.int .i64 5, .int .i64 2] 23) = w2 at HV HB ⊢
  generalize w1.heap.size = g at HV ⊢
  have hlt := HV.out.lt
  refine (size_c 5 2 (by omega) (by omega) _).mono ?_
  rw [alive_cnt]
  rintro e w3 ⟨rfl, hb3⟩
  have HV3 := Lib.hid (HV.out.below hb3 hlt)
  have HB3 := Lib.hid (HB.out.trans (hb3.mono HB.out.size)); clear hb3
  have hlt3 := HV3.out.lt
  have c0 := HV3.out.c0; have c1 := HV3.out.c1
  go_wp2_with fail
  refine (name_c 5 2 (by omega) (by omega) _).mono ?_
  rintro e w4 ⟨rfl, hb4⟩
  have HV4 := Lib.hid (HV3.out.below hb4 hlt3)
  have HB4 := Lib.hid (HB3.out.trans (hb4.mono HB3.out.size)); clear hb4 c0 c1
  have hlt4 := HV4.out.lt
  have c0 := HV4.out.c0; have c1 := HV4.out.c1
  go_wp2_with fail
  refine (right_c 5 2 _).mono ?_
  rw [show rightB 5 2 = true from rfl]
  rintro e w5 ⟨rfl, hb5⟩
  have HB5 := Lib.hid (HB4.out.trans (hb5.mono HB4.out.size)); clear hb5 c0 c1
  go_wp2_with fail
  refine (right_c 64 0 _).mono ?_
  rw [show rightB 64 0 = false from rfl]
  rintro e w6 ⟨rfl, hb6⟩
  have HB6 := Lib.hid (HB5.out.trans (hb6.mono HB5.out.size)); clear hb6
  go_wp2
  go_ret
  exact ⟨rfl, HB6.out⟩
end Go.Proofs.Ytjmbgajaflcbaaa
