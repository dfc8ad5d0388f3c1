/- The walk of BookNews. -/
import Derived.Test.YtjcpdhekilkhgaaBkA
import Derived.Test.YtjcpdhekilkhgaaTgC
namespace Go.Proofs.Ytjcpdhekilkhgaa.bookNews
open Go.RowKit
open Tg Bk Bkw
open Tgw (bal hat hbe ret_bool tv)

set_option maxRecDepth 100000 in
set_option maxHeartbeats 2000000 in
theorem walk (w : World) (A : Option Addr) (n c : Nat) (es : List E) (ha : So w A n c es) (A2 : Option Addr) (n2 c2 : Nat) (fs : List E) (hb : So w A2 n2 c2 fs) :
    Calls Try.prog 7 #[.slice A n c, .slice A2 n2 c2] w fun e w' => e = .returned (.bool true) ∧ Below w.heap.size w w' := by
  have hsf := store_flt
  have heq := eq_tagE
  have HA := Lib.hid ha; have HF := Lib.hid hb
  clear ha hb
  have HB := Lib.hid (Below.refl w.heap.size w)
  go_enter Try.func7, Try.ntmps7
  go_wp2_with fail
  refine (alive_c _).mono ?_
  rintro e w1 ⟨rfl, hb⟩
  have HA := Lib.hid (HA.out.all hb)
  have HF := Lib.hid (HF.out.all hb)
  have HB := Lib.hid (HB.out.trans (hb.mono HB.out.size)); clear hb
  go_wp2_with fail
  refine (check_c A n c es _ HA.out).mono ?_
  rintro e w2 ⟨rfl, hb⟩
  have HA := Lib.hid (HA.out.all hb)
  have HF := Lib.hid (HF.out.all hb)
  have HB := Lib.hid (HB.out.trans (hb.mono HB.out.size)); clear hb
  cases hbk : isBook es with
  | false =>
    rw [show chkN es = 71 from by unfold chkN; rw [hbk]; rfl]
    clear hbk
    go_wp2
    go_ret
    exact ⟨rfl, HB.out⟩
  | true =>
  rw [show chkN es = 0 from by unfold chkN; rw [hbk]; rfl]
  have B1 := Lib.hid hbk; clear hbk
  go_wp2_with fail
  refine (check_c A2 n2 c2 fs _ HF.out).mono ?_
  rintro e w3 ⟨rfl, hb⟩
  have HA := Lib.hid (HA.out.all hb)
  have HF := Lib.hid (HF.out.all hb)
  have HB := Lib.hid (HB.out.trans (hb.mono HB.out.size)); clear hb
  cases hbk : isBook fs with
  | false =>
    rw [show chkN fs = 71 from by unfold chkN; rw [hbk]; rfl]
    clear hbk
    go_wp2
    go_ret
    exact ⟨rfl, HB.out⟩
  | true =>
  rw [show chkN fs = 0 from by unfold chkN; rw [hbk]; rfl]
  have B2 := Lib.hid hbk; clear hbk
  go_wp2_with fail
  refine (news_c A n c es A2 n2 c2 fs _ HA.out HF.out B1.out B2.out).mono ?_
  rintro e w4 ⟨A3, n3, c3, rfl, hs, hb⟩
  have HA := Lib.hid (HA.out.all hb)
  have HF := Lib.hid (HF.out.all hb)
  have HM := Lib.hid hs
  have HB := Lib.hid (HB.out.trans (hb.mono HB.out.size)); clear hb hs
  go_wp2
  go_loopw [25] (fun i wr => ∃ k : Nat, i = .int .i64 k ∧ k ≤ n3 ∧ Below w4.heap.size w4 wr) (fun i _ => n3 - (intOf i).toNat)
  case atStart => exact ⟨0, rfl, by omega, Below.refl _ _⟩
  case round =>
    obtain ⟨k, rfl, hk, hb⟩ := hrel
    have HA := Lib.hid (HA.out.all hb); have HF := Lib.hid (HF.out.all hb); have HM := Lib.hid (HM.out.all hb)
    have HB4 := Lib.hid hb
    have HB := Lib.hid (HB.out.trans (hb.mono HB.out.size))
    clear hb
    by_cases h : k < n3
    · obtain ⟨b, o, rfl, hbB, hcell⟩ := HM.out.2.2.2.2 (by rw [← HM.out.1]; omega)
      have hkl : k < (news es fs).length := by rw [← HM.out.1]; exact h
      have hz : (news es fs)[k]? = some (news es fs)[k] := List.getElem?_eq_getElem hkl
      have hc0 := hcell k _ hz
      have HIN := Lib.hid (news_mem es fs _ (List.mem_of_getElem? hz))
      have HWX := Lib.hid (HM.out.2.2.2.1 _ (List.mem_of_getElem? hz))
      generalize (news es fs)[k] = x at hz hc0 HIN HWX
      have h47 : n3 ≤ 140737488355328 := by have := HM.out.2.2.1; omega
      obtain ⟨x0, x1, x2, x3⟩ := hc0
      clear hz hcell hkl hbB
      have HOK : Hid (0 ≤ x.key ∧ x.key ≤ 3) := Lib.hid (by have := (chk_mem fs (-1) B2.out x HIN.out.1).1; rw [okE_iff] at this; omega)
      have HGT : Hid (getF es x.key = find es x.key) := Lib.hid (by unfold getF; rw [if_pos HOK.out])
      have HGN : Hid (getN x.key = 0) := Lib.hid (by unfold getN; rw [if_pos HOK.out])
      have HL : Hid (less ((find es x.key).num, (find es x.key).node) (x.num, x.node) = true) := Lib.hid HIN.out.2
      have HIY := Lib.hid (i2_find es x.key HA.out.2.2.2.1)
      generalize find es x.key = y at HGT HL HIY
      go_wp2_with fail
      have VX := Lib.hid (show Ex (wr.alloc (.cells #[.int .i64 x.key, .int .i64 x.num, .int .i64 x.node, .float .f64 x.val] 26)) wr.heap.size x from hat _ _ _ rfl)
      have HA := Lib.hid (HA.out.alloc (.cells #[.int .i64 x.key, .int .i64 x.num, .int .i64 x.node, .float .f64 x.val] 26))
      have HB4 := Lib.hid (HB4.out.trans (bal (Below.refl wr.heap.size wr) (Nat.le_refl _) (.cells #[.int .i64 x.key, .int .i64 x.num, .int .i64 x.node, .float .f64 x.val] 26) |>.mono HB4.out.size))
      clear x0 x1 x2 x3
      generalize wr.alloc (.cells #[.int .i64 x.key, .int .i64 x.num, .int .i64 x.node, .float .f64 x.val] 26) = w5 at VX HA HB4 ⊢
      generalize wr.heap.size = gx at VX ⊢
      refine (get_c A n c es x.key HWX.out.1 _ HA.out B1.out).mono ?_
      rw [HGT.out, HGN.out]
      rintro e w6 ⟨rfl, hb⟩
      have VX := Lib.hid (VX.out.all hb)
      have HB4 := Lib.hid (HB4.out.trans (hb.mono HB4.out.size)); clear hb
      unfold ev
      have x1 : ∀ o, (w6.alloc o).cell? ⟨gx, 1, none⟩ = some (.int .i64 x.num) := fun o => (show Ex (w6.alloc o) gx x from hbe VX.out).c1
      have x2 : ∀ o, (w6.alloc o).cell? ⟨gx, 2, none⟩ = some (.int .i64 x.node) := fun o => (show Ex (w6.alloc o) gx x from hbe VX.out).c2
      go_wp2_with fail
      have HB4 := Lib.hid (bal HB4.out (Nat.le_refl _) (.cells #[.int .i64 y.key, .int .i64 y.num, .int .i64 y.node, .float .f64 y.val] 26))
      clear x1 x2
      generalize w6.alloc (.cells #[.int .i64 y.key, .int .i64 y.num, .int .i64 y.node, .float .f64 y.val] 26) = w7 at HB4 ⊢
      refine (Tgw.less_c (y.num, y.node) (x.num, x.node) HIY.out ⟨HWX.out.2.1, HWX.out.2.2.1⟩ _).mono ?_
      rw [HL.out]
      rintro e w8 ⟨rfl, hb⟩
      have HB4 := Lib.hid (HB4.out.trans (hb.mono HB4.out.size)); clear hb
      go_wp2
      exact ⟨⟨k + 1, by go_num, by omega, HB4.out⟩, by simp [intOf]; omega⟩
    · have HV : Hid (((n3 : Int) == 0) = within fs es) := Lib.hid (by
        rw [← news_zero es fs, ← HM.out.1]
        rw [Bool.eq_iff_iff, beq_iff_eq, decide_eq_true_iff]
        omega)
      generalize hv : within fs es = v at HV
      have HVV := Lib.hid hv; clear hv
      go_wp2_with fail
      refine (merge_c A n c es A3 n3 c3 (news es fs) _ HA.out HM.out B1.out (news_book es fs B2.out)).mono ?_
      rw [merge_news es fs B1.out B2.out]
      rintro e w5 ⟨A4, n4, c4, rfl, hs, hb⟩
      have HA := Lib.hid (HA.out.all hb); have HF := Lib.hid (HF.out.all hb)
      have H4 := Lib.hid hs
      have HB := Lib.hid (HB.out.trans (hb.mono HB.out.size)); clear hb hs
      go_wp2_with fail
      refine (merge_c A n c es A2 n2 c2 fs _ HA.out HF.out B1.out B2.out).mono ?_
      rintro e w6 ⟨A5, n5, c5, rfl, hs, hb⟩
      have HA := Lib.hid (HA.out.all hb); have HF := Lib.hid (HF.out.all hb); have H4 := Lib.hid (H4.out.all hb)
      have H5 := Lib.hid hs
      have HB := Lib.hid (HB.out.trans (hb.mono HB.out.size)); clear hb hs
      go_wp2_with fail
      refine (same_c A4 n4 c4 _ A5 n5 c5 _ _ H4.out H5.out).mono ?_
      rw [same_refl]
      rintro e w7 ⟨rfl, hb⟩
      have HA := Lib.hid (HA.out.all hb); have HF := Lib.hid (HF.out.all hb)
      have HB := Lib.hid (HB.out.trans (hb.mono HB.out.size)); clear hb
      have hv := HV.out
      go_wp2_with fail
      refine (within_c A2 n2 c2 fs A n c es _ HF.out HA.out B2.out B1.out).mono ?_
      rw [HVV.out]
      rintro e w8 ⟨rfl, hb⟩
      have HB := Lib.hid (HB.out.trans (hb.mono HB.out.size)); clear hb
      go_wp2
      go_ret
      exact ⟨rfl, HB.out⟩
end Go.Proofs.Ytjcpdhekilkhgaa.bookNews
