/- The walk of TagNames. -/
import Derived.Test.YtchkdinmnbjdfaaTgA
namespace Go.Proofs.Ytchkdinmnbjdfaa.tagNames
open Go.RowKit
open Tg Tgw

theorem next_none : Tg.next 0 1000000 [] = none := by decide +kernel
set_option maxHeartbeats 1000000 in
theorem walk (w : World) : Calls Try.prog 3 #[] w fun e w' => e = .returned (.bool true) ∧ Below w.heap.size w w' := by
  have heq := eq_tag
  go_enter Try.func3, Try.ntmps3
  go_wp2_with fail
  refine (next_c 0 1000000 (i64_small _ (by omega)) (i64_small _ (by omega)) none 0 0 [] rfl (by omega) (Nat.le_refl _) (by simp) 0 _ Rt.nil (Nat.zero_le _)).mono ?_
  rw [next_none]
  rintro e w2 ⟨he, hb2⟩
  have he : e = .returned (.tuple #[tv 0 0, .int .i64 61]) := he
  subst he
  have HB2 := Lib.hid hb2; clear hb2
  unfold tv
  go_wp2_with fail
  have HB3 := Lib.hid (bal HB2.out (Nat.le_refl _) (.cells #[.int .i64 0, .int .i64 0] 23))
  generalize w2.alloc (.cells #[.int .i64 0, .int .i64 0] 23) = w3 at HB3 ⊢
  refine (alive_c _).mono ?_
  rintro e w4 ⟨rfl, hb4⟩
  have HB4 := Lib.hid (HB3.out.trans (hb4.mono HB3.out.size)); clear hb4
  go_wp2_with fail
  refine (max_c none 0 0 [] rfl (by omega) (Nat.le_refl _) (by simp) 0 _ Rt.nil (Nat.zero_le _)).mono ?_
  rintro e w5 ⟨rfl, hb5⟩
  have HB5 := Lib.hid (HB4.out.trans (hb5.mono HB4.out.size)); clear hb5
  unfold maxT tv
  go_wp2
  go_ret
  exact ⟨rfl, HB5.out⟩
end Go.Proofs.Ytchkdinmnbjdfaa.tagNames
