/- What viewAlive answers: true. -/
import Derived.Test.YtofjdfnoibfdfaaVwD
namespace Go.Proofs.Ytofjdfnoibfdfaa
open Go.RowKit
open Chg Vw

theorem members_72 : members 7 2 = [0, 2] := by decide +kernel
theorem drewN_below (w : World) (k : Nat) : Below w.heap.size w (w.drewN k) := ⟨rfl, rfl, rfl, Nat.le_refl _, fun _ _ => rfl⟩

set_option maxHeartbeats 1000000 in
theorem alive_c (w : World) : Calls Try.prog 9 #[] w fun e w' => e = .returned (.bool true) ∧ Below w.heap.size w w' := by
  have heq := eq_view
  go_enter Try.func9, Try.ntmps9
  go_wp2_with fail
  have HV := Lib.hid (show Vx (w.alloc (.cells #[.int .i64 7, .int .i64 2] 25)) w.heap.size 7 2 from hat _ _ _ rfl)
  have HB := Lib.hid (bal (Below.refl w.heap.size w) (Nat.le_refl _) (.cells #[.int .i64 7, .int .i64 2] 25))
  generalize w.alloc (.cells #[.int .i64 7, .int .i64 2] 25) = w1 at HV HB ⊢
  refine (members_c 7 2 (by omega) (by omega) _).mono ?_
  rw [members_72]
  rintro e w2 ⟨A2, n2, c2, rfl, ho2, hb2⟩
  have HV := Lib.hid (HV.out.below hb2 HV.out.lt)
  have HB := Lib.hid (HB.out.trans (hb2.mono HB.out.size)); clear hb2
  have hn2 : n2 = 2 := ho2.1
  subst hn2
  have HR2 := Lib.hid ho2.rd; clear ho2
  go_wp2_with fail
  refine (same_ints A2 2 c2 [0, 2] rfl (by omega) _ 2 2 [0, 2] rfl (w2.heap.size + 1) _ ((HR2.out.below ((Below.refl _ _).alloc (Nat.le_refl _) _)).more (by omega)) (rdI_any w2 [0, 2])).mono ?_
  rintro e w3 ⟨rfl, k3, rfl⟩
  rw [show (([0, 2] : List Int) == [0, 2]) = true from rfl]
  have HV := Lib.hid (show Vx ((w2.alloc (.cells #[.int .i64 0, .int .i64 2] 3)).drewN k3) w.heap.size 7 2 from hbe HV.out)
  have HB := Lib.hid ((bal HB.out (Nat.le_refl _) (.cells #[.int .i64 0, .int .i64 2] 3)).trans ((drewN_below _ k3).mono (bal HB.out (Nat.le_refl _) (.cells #[.int .i64 0, .int .i64 2] 3)).size))
  generalize hw3 : (w2.alloc (.cells #[.int .i64 0, .int .i64 2] 3)).drewN k3 = w3 at HV HB
  have hw3' : (w2.alloc (.cells (List.map (Value.int .i64) [0, 2]).toArray 3)).drewN k3 = w3 := hw3
  rw [hw3']
  clear hw3 hw3'
  have a0 := HV.out.c0; have a1 := HV.out.c1
  go_wp2_with fail
  refine (in_c 7 2 (by omega) (by omega) 2 (by omega) _).mono ?_
  rw [show inN 7 2 2 = true from by decide +kernel]
  rintro e w4 ⟨rfl, hb4⟩
  have HV := Lib.hid (HV.out.below hb4 HV.out.lt)
  have HB := Lib.hid (HB.out.trans (hb4.mono HB.out.size)); clear hb4 a0 a1
  have a0 := HV.out.c0; have a1 := HV.out.c1
  go_wp2_with fail
  refine (in_c 7 2 (by omega) (by omega) 1 (by omega) _).mono ?_
  rw [show inN 7 2 1 = false from by decide +kernel]
  rintro e w5 ⟨rfl, hb5⟩
  have HV := Lib.hid (HV.out.below hb5 HV.out.lt)
  have HB := Lib.hid (HB.out.trans (hb5.mono HB.out.size)); clear hb5 a0 a1
  have a0 := HV.out.c0; have a1 := HV.out.c1
  go_wp2_with fail
  have RR := Lib.hid (show Rd (w5.alloc (.cells #[.int .i64 0] 3)) (w5.heap.size + 1) (some ⟨w5.heap.size, 0, none⟩) (([0] : List Int).map (Value.int .i64)) from rdI_any w5 [0])
  have HV := Lib.hid (show Vx (w5.alloc (.cells #[.int .i64 0] 3)) w.heap.size 7 2 from hbe HV.out)
  have HB := Lib.hid (bal HB.out (Nat.le_refl _) (.cells #[.int .i64 0] 3))
  have hsR : w5.heap.size + 1 ≤ (w5.alloc (.cells #[.int .i64 0] 3)).heap.size := by simp
  generalize w5.alloc (.cells #[.int .i64 0] 3) = wA at RR HV HB hsR ⊢
  generalize w5.heap.size = gA at RR hsR ⊢
  clear a0 a1
  refine (enough_c 7 2 (by omega) (by omega) _ 1 1 [0] rfl (by omega) _ _ RR.out hsR).mono ?_
  rw [show enough 7 2 [0] = false from by decide +kernel]
  rintro e w6 ⟨rfl, hb6⟩
  have HV := Lib.hid (HV.out.below hb6 HV.out.lt)
  have HB := Lib.hid (HB.out.trans (hb6.mono HB.out.size)); clear hb6
  have a0 := HV.out.c0; have a1 := HV.out.c1
  go_wp2_with fail
  have RR := Lib.hid (show Rd (w6.alloc (.cells #[.int .i64 0, .int .i64 2] 3)) (w6.heap.size + 1) (some ⟨w6.heap.size, 0, none⟩) (([0, 2] : List Int).map (Value.int .i64)) from rdI_any w6 [0, 2])
  have HV := Lib.hid (show Vx (w6.alloc (.cells #[.int .i64 0, .int .i64 2] 3)) w.heap.size 7 2 from hbe HV.out)
  have HB := Lib.hid (bal HB.out (Nat.le_refl _) (.cells #[.int .i64 0, .int .i64 2] 3))
  have hsR : w6.heap.size + 1 ≤ (w6.alloc (.cells #[.int .i64 0, .int .i64 2] 3)).heap.size := by simp
  generalize w6.alloc (.cells #[.int .i64 0, .int .i64 2] 3) = wA at RR HV HB hsR ⊢
  generalize w6.heap.size = gA at RR hsR ⊢
  clear a0 a1
  refine (enough_c 7 2 (by omega) (by omega) _ 2 2 [0, 2] rfl (by omega) _ _ RR.out hsR).mono ?_
  rw [show enough 7 2 [0, 2] = true from by decide +kernel]
  rintro e w7 ⟨rfl, hb7⟩
  have HV := Lib.hid (HV.out.below hb7 HV.out.lt)
  have HB := Lib.hid (HB.out.trans (hb7.mono HB.out.size)); clear hb7
  have a0 := HV.out.c0; have a1 := HV.out.c1
  go_wp2_with fail
  refine (vless_c (1, 0) (7, 2) (by decide) (by decide) _).mono ?_
  rw [show less (1, 0) (7, 2) = true from by decide +kernel]
  rintro e w8 ⟨rfl, hb8⟩
  have HV := Lib.hid (HV.out.below hb8 HV.out.lt)
  have HB := Lib.hid (HB.out.trans (hb8.mono HB.out.size)); clear hb8 a0 a1
  go_wp2
  go_ret
  exact ⟨rfl, HB.out⟩
end Go.Proofs.Ytofjdfnoibfdfaa
