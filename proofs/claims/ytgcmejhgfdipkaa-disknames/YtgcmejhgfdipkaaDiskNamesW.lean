/- The walk of DiskNames. -/
import Derived.Test.YtgcmejhgfdipkaaDkA
namespace Go.Proofs.Ytgcmejhgfdipkaa.diskNames
open Go.RowKit
open Dk Dkw

theorem a0 : appE (newD 0) [97] = 81 := by decide +kernel
set_option maxHeartbeats 1000000 in
theorem walk (w : World) : Calls Try.prog 3 #[] w fun e w' => e = .returned (.bool true) ∧ Below w.heap.size w w' := by
  have kc := text_const
  go_enter Try.func3, Try.ntmps3
  go_wp2_with fail
  refine (alive_c _).mono ?_
  rintro e w1 ⟨rfl, hb⟩
  have HB := Lib.hid hb; clear hb
  go_wp2_with fail
  refine (new_c 0 (i64_small _ (by omega)) _).mono ?_
  rintro e w2 ⟨p, F, rfl, hd, hF, hb⟩
  obtain ⟨a, rfl⟩ := hd.ptr
  have HD := Lib.hid hd; have HF : Hid (∀ k, F k → w.heap.size ≤ k) := Lib.hid (fun k hk => Nat.le_trans HB.out.size (hF k hk))
  have HB := Lib.hid (HB.out.trans (hb.mono HB.out.size))
  clear hd hF hb
  go_wp2_with fail
  have HR := Lib.hid (rf_mark w2 F ([97].map B8) (1, 2) HD.out.lt)
  have HD := Lib.hid (HD.out.all (bal (Below.refl _ _) (Nat.le_refl _) (.cells #[.int .u8 97] 5 (1, 2))))
  have HB := Lib.hid (bal HB.out (Nat.le_refl _) (.cells #[.int .u8 97] 5 (1, 2)))
  refine (append_c _ _ _ 1 1 [97] rfl (Nat.le_refl _) (by unfold big; omega) F _ HD.out HR.out).mono ?_
  rw [a0]
  rintro e w3 ⟨F', rfl, hd, hg⟩
  have HB := Lib.hid (HB.out.trans (hg.below HB.out.size HF.out).1)
  clear hd hg HR
  go_wp2
  go_ret
  exact ⟨rfl, HB.out⟩
end Go.Proofs.Ytgcmejhgfdipkaa.diskNames
