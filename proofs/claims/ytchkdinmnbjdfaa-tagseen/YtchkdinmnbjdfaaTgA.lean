/- What tagAlive answers: true. -/
import Derived.Test.YtchkdinmnbjdfaaTgC
namespace Go.Proofs.Ytchkdinmnbjdfaa.Tgw
open Go.RowKit
open Tg

theorem next_alive : next 2 4 [(7, 5)] = some (8, 2) := by decide +kernel
theorem i64_small (x : Int) (h : 0 ≤ x ∧ x ≤ 10000000) : I64 x := by unfold I64; omega
set_option maxHeartbeats 1000000 in
theorem alive_c (w : World) : Calls Try.prog 10 #[] w fun e w' => e = .returned (.bool true) ∧ Below w.heap.size w w' := by
  have heq := eq_tag
  go_enter Try.func10, Try.ntmps10
  go_wp2_with fail
  have RX := Lib.hid (show Rt (w.alloc (.cells #[.int .i64 7, .int .i64 5] 23)) (w.alloc (.cells #[.int .i64 7, .int .i64 5] 23)).heap.size (some ⟨w.heap.size, 0, none⟩) [(7, 5)] from (rt_new w [(7, 5)]).more (by simp))
  have HB := Lib.hid (bal (Below.refl w.heap.size w) (Nat.le_refl _) (.cells #[.int .i64 7, .int .i64 5] 23))
  generalize w.alloc (.cells #[.int .i64 7, .int .i64 5] 23) = w1 at RX HB ⊢
  refine (next_c 2 4 (i64_small _ (by omega)) (i64_small _ (by omega)) _ 1 1 [(7, 5)] rfl (by omega) (Nat.le_refl _) (by intro t ht; rw [List.mem_singleton] at ht; subst ht; exact ⟨i64_small _ (by decide), i64_small _ (by decide)⟩) _ _ RX.out (Nat.le_refl _)).mono ?_
  rw [next_alive]
  rintro e w2 ⟨he, hb2⟩
  have he : e = .returned (.tuple #[tv 8 2, .int .i64 0]) := he
  subst he
  have HB2 := Lib.hid (HB.out.trans (hb2.mono HB.out.size)); clear hb2 RX HB
  unfold tv
  go_wp2_with fail
  have HV := Lib.hid (show Tx (w2.alloc (.cells #[.int .i64 8, .int .i64 2] 23)) w2.heap.size 8 2 from hat _ _ _ rfl)
  have HB3 := Lib.hid (bal HB2.out (Nat.le_refl _) (.cells #[.int .i64 8, .int .i64 2] 23))
  generalize w2.alloc (.cells #[.int .i64 8, .int .i64 2] 23) = w3 at HV HB3 ⊢
  generalize w2.heap.size = g at HV ⊢
  refine (less_c (7, 5) (8, 2) ⟨i64_small _ (by decide), i64_small _ (by decide)⟩ ⟨i64_small _ (by decide), i64_small _ (by decide)⟩ _).mono ?_
  rw [show less (7, 5) (8, 2) = true from by decide]
  rintro e w4 ⟨rfl, hb4⟩
  have HV := Lib.hid (HV.out.all hb4)
  have HB4 := Lib.hid (HB3.out.trans (hb4.mono HB3.out.size)); clear hb4
  have a0 := HV.out.c0; have a1 := HV.out.c1
  go_wp2_with fail
  refine (right_c 8 2 (i64_small _ (by decide)) (i64_small _ (by decide)) _).mono ?_
  rw [show right 8 2 = true from by decide]
  rintro e w5 ⟨rfl, hb5⟩
  have HB5 := Lib.hid (HB4.out.trans (hb5.mono HB4.out.size)); clear hb5 a0 a1
  go_wp2_with fail
  refine (right_c 0 1 (i64_small _ (by decide)) (i64_small _ (by decide)) _).mono ?_
  rw [show right 0 1 = false from by decide]
  rintro e w6 ⟨rfl, hb6⟩
  have HB6 := Lib.hid (HB5.out.trans (hb6.mono HB5.out.size)); clear hb6
  go_wp2
  go_ret
  exact ⟨rfl, HB6.out⟩
end Go.Proofs.Ytchkdinmnbjdfaa.Tgw
