/- The walk of BookTurns. -/
import Derived.Test.YtjcpdhekilkhgaaBkA
namespace Go.Proofs.Ytjcpdhekilkhgaa.bookTurns
open Go.RowKit
open Tg Bk Bkw
open Tgw (bal hat hbe ret_bool tv)

set_option maxRecDepth 100000 in
set_option maxHeartbeats 2000000 in
theorem walk (w : World) (A : Option Addr) (n c : Nat) (es : List E) (ha : So w A n c es) (A2 : Option Addr) (n2 c2 : Nat) (fs : List E) (hb : So w A2 n2 c2 fs) (A3 : Option Addr) (n3 c3 : Nat) (gs : List E) (hc : So w A3 n3 c3 gs) :
    Calls Try.prog 6 #[.slice A n c, .slice A2 n2 c2, .slice A3 n3 c3] w fun e w' => e = .returned (.bool true) ∧ Below w.heap.size w w' := by
  have HA := Lib.hid ha; have HF := Lib.hid hb; have HC := Lib.hid hc
  clear ha hb hc
  have HB := Lib.hid (Below.refl w.heap.size w)
  go_enter Try.func6, Try.ntmps6
  go_wp2_with fail
  refine (alive_c _).mono ?_
  rintro e w1 ⟨rfl, hb⟩
  have HA := Lib.hid (HA.out.all hb)
  have HF := Lib.hid (HF.out.all hb)
  have HC := Lib.hid (HC.out.all hb)
  have HB := Lib.hid (HB.out.trans (hb.mono HB.out.size)); clear hb
  go_wp2_with fail
  refine (check_c A n c es _ HA.out).mono ?_
  rintro e w2 ⟨rfl, hb⟩
  have HA := Lib.hid (HA.out.all hb)
  have HF := Lib.hid (HF.out.all hb)
  have HC := Lib.hid (HC.out.all hb)
  have HB := Lib.hid (HB.out.trans (hb.mono HB.out.size)); clear hb
  cases hbk : isBook es with
  | false =>
    rw [show chkN es = 71 from by unfold chkN; rw [hbk]; rfl]
    clear hbk
    go_wp2
    go_ret
    exact ⟨rfl, HB.out⟩
  | true =>
  rw [show chkN es = 0 from by unfold chkN; rw [hbk]; rfl]
  have B1 := Lib.hid hbk; clear hbk
  go_wp2_with fail
  refine (check_c A2 n2 c2 fs _ HF.out).mono ?_
  rintro e w3 ⟨rfl, hb⟩
  have HA := Lib.hid (HA.out.all hb)
  have HF := Lib.hid (HF.out.all hb)
  have HC := Lib.hid (HC.out.all hb)
  have HB := Lib.hid (HB.out.trans (hb.mono HB.out.size)); clear hb
  cases hbk : isBook fs with
  | false =>
    rw [show chkN fs = 71 from by unfold chkN; rw [hbk]; rfl]
    clear hbk
    go_wp2
    go_ret
    exact ⟨rfl, HB.out⟩
  | true =>
  rw [show chkN fs = 0 from by unfold chkN; rw [hbk]; rfl]
  have B2 := Lib.hid hbk; clear hbk
  go_wp2_with fail
  refine (check_c A3 n3 c3 gs _ HC.out).mono ?_
  rintro e w4 ⟨rfl, hb⟩
  have HA := Lib.hid (HA.out.all hb)
  have HF := Lib.hid (HF.out.all hb)
  have HC := Lib.hid (HC.out.all hb)
  have HB := Lib.hid (HB.out.trans (hb.mono HB.out.size)); clear hb
  cases hbk : isBook gs with
  | false =>
    rw [show chkN gs = 71 from by unfold chkN; rw [hbk]; rfl]
    clear hbk
    go_wp2
    go_ret
    exact ⟨rfl, HB.out⟩
  | true =>
  rw [show chkN gs = 0 from by unfold chkN; rw [hbk]; rfl]
  have B3 := Lib.hid hbk; clear hbk
  have B4 := Lib.hid (merge_book es fs B1.out B2.out)
  have B5 := Lib.hid (merge_book fs gs B2.out B3.out)
  have LM : Hid ((merge es fs).length ≤ 4) := Lib.hid (mergeK_len es fs 4)
  go_wp2_with fail
  refine (merge_c A n c es A2 n2 c2 fs _ HA.out HF.out B1.out B2.out).mono ?_
  rintro e w5 ⟨A4, n4, c4, rfl, hs, hb⟩
  have HA := Lib.hid (HA.out.all hb)
  have HF := Lib.hid (HF.out.all hb)
  have HC := Lib.hid (HC.out.all hb)
  have HM := Lib.hid hs
  have HB := Lib.hid (HB.out.trans (hb.mono HB.out.size)); clear hb
  clear hs
  go_wp2_with fail
  refine (merge_c A4 n4 c4 (merge es fs) A3 n3 c3 gs _ HM.out HC.out B4.out B3.out).mono ?_
  rintro e w6 ⟨A5, n5, c5, rfl, hs, hb⟩
  have HA := Lib.hid (HA.out.all hb)
  have HF := Lib.hid (HF.out.all hb)
  have HC := Lib.hid (HC.out.all hb)
  have HM := Lib.hid (HM.out.all hb)
  have H5 := Lib.hid hs
  have HB := Lib.hid (HB.out.trans (hb.mono HB.out.size)); clear hb
  clear hs
  go_wp2_with fail
  refine (merge_c A2 n2 c2 fs A3 n3 c3 gs _ HF.out HC.out B2.out B3.out).mono ?_
  rintro e w7 ⟨A6, n6, c6, rfl, hs, hb⟩
  have HA := Lib.hid (HA.out.all hb)
  have HF := Lib.hid (HF.out.all hb)
  have HC := Lib.hid (HC.out.all hb)
  have HM := Lib.hid (HM.out.all hb)
  have H5 := Lib.hid (H5.out.all hb)
  have H6 := Lib.hid hs
  have HB := Lib.hid (HB.out.trans (hb.mono HB.out.size)); clear hb
  clear hs
  go_wp2_with fail
  refine (merge_c A n c es A6 n6 c6 (merge fs gs) _ HA.out H6.out B1.out B5.out).mono ?_
  rw [← merge_assoc es fs gs B1.out B2.out B3.out]
  rintro e w8 ⟨A7, n7, c7, rfl, hs, hb⟩
  have HA := Lib.hid (HA.out.all hb)
  have HF := Lib.hid (HF.out.all hb)
  have HC := Lib.hid (HC.out.all hb)
  have HM := Lib.hid (HM.out.all hb)
  have H5 := Lib.hid (H5.out.all hb)
  have H7 := Lib.hid hs
  have HB := Lib.hid (HB.out.trans (hb.mono HB.out.size)); clear hb
  clear hs
  go_wp2_with fail
  refine (same_c A5 n5 c5 _ A7 n7 c7 _ _ H5.out H7.out).mono ?_
  rw [same_refl]
  rintro e w9 ⟨rfl, hb⟩
  have HA := Lib.hid (HA.out.all hb)
  have HF := Lib.hid (HF.out.all hb)
  have HC := Lib.hid (HC.out.all hb)
  have HM := Lib.hid (HM.out.all hb)
  have HB := Lib.hid (HB.out.trans (hb.mono HB.out.size)); clear hb
  go_wp2_with fail
  refine (merge_c A n c es A n c es _ HA.out HA.out B1.out B1.out).mono ?_
  rw [merge_self es B1.out]
  rintro e w10 ⟨A8, n8, c8, rfl, hs, hb⟩
  have HA := Lib.hid (HA.out.all hb)
  have HF := Lib.hid (HF.out.all hb)
  have HC := Lib.hid (HC.out.all hb)
  have HM := Lib.hid (HM.out.all hb)
  have H8 := Lib.hid hs
  have HB := Lib.hid (HB.out.trans (hb.mono HB.out.size)); clear hb
  clear hs
  go_wp2_with fail
  refine (same_c A8 n8 c8 es A n c es _ H8.out HA.out).mono ?_
  rw [same_refl]
  rintro e w11 ⟨rfl, hb⟩
  have HA := Lib.hid (HA.out.all hb)
  have HF := Lib.hid (HF.out.all hb)
  have HC := Lib.hid (HC.out.all hb)
  have HM := Lib.hid (HM.out.all hb)
  have HB := Lib.hid (HB.out.trans (hb.mono HB.out.size)); clear hb
  go_wp2_with fail
  refine (within_c A n c es A4 n4 c4 (merge es fs) _ HA.out HM.out B1.out B4.out).mono ?_
  rw [within_l es fs B1.out B2.out]
  rintro e w12 ⟨rfl, hb⟩
  have HA := Lib.hid (HA.out.all hb)
  have HF := Lib.hid (HF.out.all hb)
  have HC := Lib.hid (HC.out.all hb)
  have HM := Lib.hid (HM.out.all hb)
  have HB := Lib.hid (HB.out.trans (hb.mono HB.out.size)); clear hb
  go_wp2_with fail
  refine (within_c A2 n2 c2 fs A4 n4 c4 (merge es fs) _ HF.out HM.out B2.out B4.out).mono ?_
  rw [within_r2 es fs B1.out B2.out]
  rintro e w13 ⟨rfl, hb⟩
  have HA := Lib.hid (HA.out.all hb)
  have HF := Lib.hid (HF.out.all hb)
  have HC := Lib.hid (HC.out.all hb)
  have HM := Lib.hid (HM.out.all hb)
  have HB := Lib.hid (HB.out.trans (hb.mono HB.out.size)); clear hb
  go_wp2_with fail
  refine (check_c A4 n4 c4 (merge es fs) _ HM.out).mono ?_
  rw [show chkN (merge es fs) = 0 from by unfold chkN; rw [B4.out]; rfl]
  rintro e w14 ⟨rfl, hb⟩
  have HA := Lib.hid (HA.out.all hb)
  have HF := Lib.hid (HF.out.all hb)
  have HC := Lib.hid (HC.out.all hb)
  have HM := Lib.hid (HM.out.all hb)
  have HB := Lib.hid (HB.out.trans (hb.mono HB.out.size)); clear hb
  have HV3 : Hid (within es gs = true → within (merge es fs) gs = within fs gs) := Lib.hid (within_least es fs gs B1.out B2.out B3.out)
  obtain ⟨v1, hv⟩ : ∃ v, v = within es gs := ⟨_, rfl⟩
  rw [← hv] at HV3
  have HV1 := Lib.hid hv; clear hv
  obtain ⟨v2, hv⟩ : ∃ v, v = within fs gs := ⟨_, rfl⟩
  rw [← hv] at HV3
  have HV2 := Lib.hid hv; clear hv
  go_wp2_with fail
  refine (within_c A n c es A3 n3 c3 gs _ HA.out HC.out B1.out B3.out).mono ?_
  rw [← HV1.out]
  rintro e w15 ⟨rfl, hb⟩
  have HA := Lib.hid (HA.out.all hb)
  have HF := Lib.hid (HF.out.all hb)
  have HC := Lib.hid (HC.out.all hb)
  have HM := Lib.hid (HM.out.all hb)
  have HB := Lib.hid (HB.out.trans (hb.mono HB.out.size)); clear hb
  obtain ⟨v4, hv⟩ : ∃ v, v = within fs es := ⟨_, rfl⟩
  have HV4 := Lib.hid hv; clear hv
  cases v1 with
  | false =>
    go_wp2_with fail
    refine (within_c A2 n2 c2 fs A n c es _ HF.out HA.out B2.out B1.out).mono ?_
    rw [← HV4.out]
    rintro e w20 ⟨rfl, hb⟩
    have HA := Lib.hid (HA.out.all hb)
    have HF := Lib.hid (HF.out.all hb)
    have HM := Lib.hid (HM.out.all hb)
    have HB := Lib.hid (HB.out.trans (hb.mono HB.out.size)); clear hb
    go_wp2_with fail
    refine (same_c A4 n4 c4 (merge es fs) A n c es _ HM.out HA.out).mono ?_
    rw [← within_same es fs B1.out B2.out, ← HV4.out]
    rintro e w21 ⟨rfl, hb⟩
    have HF := Lib.hid (HF.out.all hb)
    have HM := Lib.hid (HM.out.all hb)
    have HB := Lib.hid (HB.out.trans (hb.mono HB.out.size)); clear hb
    go_wp2_with fail
    refine (news_c A4 n4 c4 (merge es fs) A2 n2 c2 fs _ HM.out HF.out B4.out B2.out).mono ?_
    rintro e w22 ⟨A9, n9, c9, rfl, hs, hb⟩
    obtain rfl : n9 = 0 := hs.1.trans (of_decide_eq_true ((news_zero (merge es fs) fs).trans (within_r2 es fs B1.out B2.out)))
    have HB := Lib.hid (HB.out.trans (hb.mono HB.out.size)); clear hb
    clear hs
    go_wp2
    go_ret
    exact ⟨rfl, HB.out⟩
  | true =>
    have HV5 := Lib.hid (HV3.out rfl)
    go_wp2_with fail
    refine (within_c A2 n2 c2 fs A3 n3 c3 gs _ HF.out HC.out B2.out B3.out).mono ?_
    rw [← HV2.out]
    rintro e w16 ⟨rfl, hb⟩
    have HA := Lib.hid (HA.out.all hb)
    have HF := Lib.hid (HF.out.all hb)
    have HC := Lib.hid (HC.out.all hb)
    have HM := Lib.hid (HM.out.all hb)
    have HB := Lib.hid (HB.out.trans (hb.mono HB.out.size)); clear hb
    go_wp2_with fail
    refine (within_c A4 n4 c4 (merge es fs) A3 n3 c3 gs _ HM.out HC.out B4.out B3.out).mono ?_
    rw [HV5.out]
    rintro e w17 ⟨rfl, hb⟩
    have HA := Lib.hid (HA.out.all hb)
    have HF := Lib.hid (HF.out.all hb)
    have HC := Lib.hid (HC.out.all hb)
    have HM := Lib.hid (HM.out.all hb)
    have HB := Lib.hid (HB.out.trans (hb.mono HB.out.size)); clear hb
    go_wp2_with fail
    refine (within_c A2 n2 c2 fs A n c es _ HF.out HA.out B2.out B1.out).mono ?_
    rw [← HV4.out]
    rintro e w20 ⟨rfl, hb⟩
    have HA := Lib.hid (HA.out.all hb)
    have HF := Lib.hid (HF.out.all hb)
    have HM := Lib.hid (HM.out.all hb)
    have HB := Lib.hid (HB.out.trans (hb.mono HB.out.size)); clear hb
    go_wp2_with fail
    refine (same_c A4 n4 c4 (merge es fs) A n c es _ HM.out HA.out).mono ?_
    rw [← within_same es fs B1.out B2.out, ← HV4.out]
    rintro e w21 ⟨rfl, hb⟩
    have HF := Lib.hid (HF.out.all hb)
    have HM := Lib.hid (HM.out.all hb)
    have HB := Lib.hid (HB.out.trans (hb.mono HB.out.size)); clear hb
    go_wp2_with fail
    refine (news_c A4 n4 c4 (merge es fs) A2 n2 c2 fs _ HM.out HF.out B4.out B2.out).mono ?_
    rintro e w22 ⟨A9, n9, c9, rfl, hs, hb⟩
    obtain rfl : n9 = 0 := hs.1.trans (of_decide_eq_true ((news_zero (merge es fs) fs).trans (within_r2 es fs B1.out B2.out)))
    have HB := Lib.hid (HB.out.trans (hb.mono HB.out.size)); clear hb
    clear hs
    go_wp2
    go_ret
    exact ⟨rfl, HB.out⟩
end Go.Proofs.Ytjcpdhekilkhgaa.bookTurns
