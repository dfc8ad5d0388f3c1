/- The walk of BookMerges. -/
import Derived.Test.YtjcpdhekilkhgaaBkA
namespace Go.Proofs.Ytjcpdhekilkhgaa.bookMerges
open Go.RowKit
open Tg Bk Bkw
open Tgw (bal hat hbe ret_bool tv)

set_option maxRecDepth 100000 in
set_option maxHeartbeats 2000000 in
theorem walk (w : World) (A : Option Addr) (n c : Nat) (es : List E) (ha : So w A n c es) (A2 : Option Addr) (n2 c2 : Nat) (fs : List E) (hb : So w A2 n2 c2 fs) :
    Calls Try.prog 5 #[.slice A n c, .slice A2 n2 c2] w fun e w' => e = .returned (.bool true) ∧ Below w.heap.size w w' := by
  have hsf := store_flt
  have heq := eq_tagE
  have HA := Lib.hid ha; have HF := Lib.hid hb
  clear ha hb
  have HB := Lib.hid (Below.refl w.heap.size w)
  go_enter Try.func5, Try.ntmps5
  go_wp2_with fail
  refine (alive_c _).mono ?_
  rintro e w1 ⟨rfl, hb⟩
  have HA := Lib.hid (HA.out.all hb)
  have HF := Lib.hid (HF.out.all hb)
  have HB := Lib.hid (HB.out.trans (hb.mono HB.out.size)); clear hb
  go_wp2_with fail
  refine (check_o A n c es _ HA.out).mono ?_
  rintro e w2 ⟨rfl, hb⟩
  have HA := Lib.hid (HA.out.all hb)
  have HF := Lib.hid (HF.out.all hb)
  have HB := Lib.hid (HB.out.trans (hb.mono HB.out.size)); clear hb
  cases hbk : isBook es with
  | false =>
    rw [show chkN es = 71 from by unfold chkN; rw [hbk]; rfl]
    clear hbk
    go_wp2
    go_ret
    exact ⟨rfl, HB.out⟩
  | true =>
  rw [show chkN es = 0 from by unfold chkN; rw [hbk]; rfl]
  have B1 := Lib.hid hbk; clear hbk
  go_wp2_with fail
  refine (check_o A2 n2 c2 fs _ HF.out).mono ?_
  rintro e w3 ⟨rfl, hb⟩
  have HA := Lib.hid (HA.out.all hb)
  have HF := Lib.hid (HF.out.all hb)
  have HB := Lib.hid (HB.out.trans (hb.mono HB.out.size)); clear hb
  cases hbk : isBook fs with
  | false =>
    rw [show chkN fs = 71 from by unfold chkN; rw [hbk]; rfl]
    clear hbk
    go_wp2
    go_ret
    exact ⟨rfl, HB.out⟩
  | true =>
  rw [show chkN fs = 0 from by unfold chkN; rw [hbk]; rfl]
  have B2 := Lib.hid hbk; clear hbk
  go_wp2_with (first
    | (at_builtin; refine wp_copyE rfl (.tmp 19) (.tmp 20) rfl w3 rfl A n c es rfl HA.out ?_; intro A4 c4 w4 hs4 hb4)
    | (at_builtin; refine wp_copyE rfl (.tmp 22) (.tmp 23) rfl w4 rfl A2 n2 c2 fs rfl (HF.out.all hb4) ?_; intro A5 c5 w5 hs5 hb5))
  have hb := hb4.trans (hb5.mono hb4.size)
  have HA := Lib.hid (HA.out.all hb); have HF := Lib.hid (HF.out.all hb)
  have HX := Lib.hid (hs4.all hb5); have HY := Lib.hid hs5
  have HB := Lib.hid (HB.out.trans (hb.mono HB.out.size)); clear hb
  clear hs4 hs5 hb4 hb5
  refine (merge_c A4 n c4 es A5 n2 c5 fs _ HX.out HY.out B1.out B2.out).mono ?_
  rintro e w6 ⟨A6, n6, c6, rfl, hs, hb⟩
  have HA := Lib.hid (HA.out.all hb)
  have HF := Lib.hid (HF.out.all hb)
  have HX := Lib.hid (HX.out.all hb)
  have HY := Lib.hid (HY.out.all hb)
  have HM := Lib.hid hs
  have HB := Lib.hid (HB.out.trans (hb.mono HB.out.size)); clear hb
  clear hs
  go_wp2_with fail
  refine (news_c A4 n c4 es A5 n2 c5 fs _ HX.out HY.out B1.out B2.out).mono ?_
  rintro e w7 ⟨A7, n7, c7, rfl, hs, hb⟩
  have HA := Lib.hid (HA.out.all hb)
  have HF := Lib.hid (HF.out.all hb)
  have HX := Lib.hid (HX.out.all hb)
  have HY := Lib.hid (HY.out.all hb)
  have HM := Lib.hid (HM.out.all hb)
  have HW := Lib.hid hs
  have HB := Lib.hid (HB.out.trans (hb.mono HB.out.size)); clear hb
  clear hs
  go_wp2_with fail
  refine (merge_o A n c es A2 n2 c2 fs _ HA.out HF.out B1.out B2.out).mono ?_
  rintro e w8 ⟨A8, n8, c8, rfl, hs, hb⟩
  have HA := Lib.hid (HA.out.all hb)
  have HF := Lib.hid (HF.out.all hb)
  have HX := Lib.hid (HX.out.all hb)
  have HY := Lib.hid (HY.out.all hb)
  have HM := Lib.hid (HM.out.all hb)
  have HW := Lib.hid (HW.out.all hb)
  have HR := Lib.hid hs
  have HB := Lib.hid (HB.out.trans (hb.mono HB.out.size)); clear hb
  clear hs
  go_wp2_with fail
  refine (same_o A6 n6 c6 _ A8 n8 c8 _ _ HM.out HR.out).mono ?_
  rw [same_refl]
  rintro e w9 ⟨rfl, hb⟩
  have HA := Lib.hid (HA.out.all hb)
  have HF := Lib.hid (HF.out.all hb)
  have HX := Lib.hid (HX.out.all hb)
  have HY := Lib.hid (HY.out.all hb)
  have HW := Lib.hid (HW.out.all hb)
  have HB := Lib.hid (HB.out.trans (hb.mono HB.out.size)); clear hb
  go_wp2_with fail
  refine (news_o A n c es A2 n2 c2 fs _ HA.out HF.out).mono ?_
  rintro e w10 ⟨A9, n9, c9, rfl, hs, hb⟩
  have HA := Lib.hid (HA.out.all hb)
  have HF := Lib.hid (HF.out.all hb)
  have HX := Lib.hid (HX.out.all hb)
  have HY := Lib.hid (HY.out.all hb)
  have HW := Lib.hid (HW.out.all hb)
  have HR := Lib.hid hs
  have HB := Lib.hid (HB.out.trans (hb.mono HB.out.size)); clear hb
  clear hs
  go_wp2_with fail
  refine (same_o A7 n7 c7 _ A9 n9 c9 _ _ HW.out HR.out).mono ?_
  rw [same_refl]
  rintro e w11 ⟨rfl, hb⟩
  have HA := Lib.hid (HA.out.all hb)
  have HF := Lib.hid (HF.out.all hb)
  have HX := Lib.hid (HX.out.all hb)
  have HY := Lib.hid (HY.out.all hb)
  have HB := Lib.hid (HB.out.trans (hb.mono HB.out.size)); clear hb
  obtain ⟨v, hv⟩ : ∃ v, v = within es fs := ⟨_, rfl⟩
  have HV := Lib.hid hv; clear hv
  go_wp2_with fail
  refine (within_c A4 n c4 es A5 n2 c5 fs _ HX.out HY.out B1.out B2.out).mono ?_
  rw [← HV.out]
  rintro e w12 ⟨rfl, hb⟩
  have HA := Lib.hid (HA.out.all hb)
  have HF := Lib.hid (HF.out.all hb)
  have HX := Lib.hid (HX.out.all hb)
  have HY := Lib.hid (HY.out.all hb)
  have HB := Lib.hid (HB.out.trans (hb.mono HB.out.size)); clear hb
  go_wp2_with fail
  refine (within_o A n c es A2 n2 c2 fs _ HA.out HF.out).mono ?_
  rw [← HV.out]
  rintro e w13 ⟨rfl, hb⟩
  have HA := Lib.hid (HA.out.all hb)
  have HF := Lib.hid (HF.out.all hb)
  have HX := Lib.hid (HX.out.all hb)
  have HY := Lib.hid (HY.out.all hb)
  have HB := Lib.hid (HB.out.trans (hb.mono HB.out.size)); clear hb
  go_wp2_with fail
  refine (same_o A4 n c4 es A n c es _ HX.out HA.out).mono ?_
  rw [same_refl]
  rintro e w14 ⟨rfl, hb⟩
  have HA := Lib.hid (HA.out.all hb)
  have HF := Lib.hid (HF.out.all hb)
  have HX := Lib.hid (HX.out.all hb)
  have HY := Lib.hid (HY.out.all hb)
  have HB := Lib.hid (HB.out.trans (hb.mono HB.out.size)); clear hb
  go_wp2_with fail
  refine (same_o A5 n2 c5 fs A2 n2 c2 fs _ HY.out HF.out).mono ?_
  rw [same_refl]
  rintro e w15 ⟨rfl, hb⟩
  have HB := Lib.hid (HB.out.trans (hb.mono HB.out.size)); clear hb
  go_wp2
  go_ret
  exact ⟨rfl, HB.out⟩
end Go.Proofs.Ytjcpdhekilkhgaa.bookMerges
