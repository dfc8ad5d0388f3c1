/- The walk of WireGets. -/
import Derived.Test.YtlfolpbgekchjaaWireF
namespace Go.Proofs.Ytlfolpbgekchjaa.wireGets
open Go.RowKit
open Wire

theorem gets_len : ∀ (m : Nat) (bs : List UInt8) (ns : List Nat) (r : List UInt8), getsF m bs = some (ns, r) → ns.length = m
  | 0, bs, ns, r, h => by simp [getsF] at h; rw [h.1]; rfl
  | m + 1, bs, ns, r, h => by
    simp only [getsF] at h
    cases ht : takeF bs with
    | none => rw [ht] at h; cases h
    | some x =>
      rw [ht] at h
      simp only [Option.bind_some] at h
      cases hg : getsF m x.2 with
      | none => rw [hg] at h; cases h
      | some y =>
        rw [hg] at h
        simp only [Option.map_some, Option.some.injEq, Prod.mk.injEq] at h
        rw [← h.1, List.length_cons, gets_len m x.2 y.1 y.2 hg]
theorem gL_len (many : Int) (bs : List UInt8) : (gL (getsI many bs)).length ≤ 100 := by
  unfold getsI
  split
  · exact Nat.zero_le _
  · rename_i h
    cases hg : getsF many.toNat bs with
    | none => exact Nat.zero_le _
    | some x => have := gets_len _ _ x.1 x.2 hg; show x.1.length ≤ 100; omega

theorem walk (w : World) (A : Option Addr) (n c : Nat) (bs : List UInt8) (hn : n = bs.length) (hc : n ≤ c) (hr : Rd w w.heap.size A (bs.map B8)) (hl : c * 1 ≤ 140737488351232) (many : Int) (_ : (Lit.int .i64 many).wf = true) :
    Calls Try.prog 5 #[.slice A n c, .int .i64 many] w fun e w' => e = .returned (.bool true) ∧ Below w.heap.size w w' := by
  have hb : n ≤ big := by unfold big; omega
  have HN := Lib.hid hn; clear hn
  have HR := Lib.hid hr; clear hr hl
  go_enter Try.func5, Try.ntmps5
  go_wp2_with fail
  refine (alive_c _).mono ?_
  rintro e w1 ⟨rfl, hb1⟩
  have hs1 := hb1.size
  have HB1 := Lib.hid hb1; clear hb1
  go_wp2_with (at_builtin; refine wp_copy8 rfl (.tmp 18) (.tmp 19) rfl w1 rfl w.heap.size A n c bs rfl HN.out (HR.out.below HB1.out) hs1 hb ?_; intro A2 c2 w2 ho2 hb2)
  have HB2 := Lib.hid (HB1.out.trans (hb2.mono hs1)); clear hb2
  refine (get_c _ _ _ bs HN.out ho2.cap w2.heap.size _ ho2.rd (Nat.le_refl _) hb).mono ?_
  intro e w3 h3
  clear ho2
  obtain ⟨A3, n3, c3, rfl, hn3, _, hr3, hb3⟩ := h3.flat
  have HR3 := Lib.hid hr3; clear hr3 h3
  have HN3 := Lib.hid hn3; clear hn3
  have HB3 := Lib.hid (HB2.out.trans (hb3.mono HB2.out.size)); clear hb3
  go_wp2_with fail
  refine (get_r _ _ _ bs HN.out hc w.heap.size _ (HR.out.below HB3.out) HB3.out.size hb).mono ?_
  intro e w4 h4
  obtain ⟨A4, n4, c4, rfl, hn4, _, hr4, hb4⟩ := h4.flat
  have hcv3 := str8' c3 (HR3.out.below hb4) HN3.out
  have hcv4 := str8' c4 hr4 hn4
  have HB4 := Lib.hid (HB3.out.trans (hb4.mono HB3.out.size)); clear hb4 h4 hr4 hn4
  have hs4 := HB4.out.size
  go_wp2_with (at_builtin; refine wp_copy8 rfl (.tmp 47) (.tmp 48) rfl w4 rfl w.heap.size A n c bs rfl HN.out (HR.out.below HB4.out) hs4 hb ?_; intro A5 c5 w5 ho5 hb5)
  have HB5 := Lib.hid (HB4.out.trans (hb5.mono hs4)); clear hb5 hcv3 hcv4
  refine (gets_c _ _ _ many bs HN.out ho5.cap w5.heap.size _ ho5.rd (Nat.le_refl _) hb).mono ?_
  intro e w6 h6
  clear ho5
  obtain ⟨A6, n6, c6, A7, n7, c7, rfl, hn6, hn7, hr6, hr7, hb6⟩ := h6.flat
  have HR6 := Lib.hid hr6; clear hr6 h6
  have HR7 := Lib.hid hr7; clear hr7
  have HN6 := Lib.hid hn6; clear hn6
  have HN7 := Lib.hid hn7; clear hn7
  have HB6 := Lib.hid (HB5.out.trans (hb6.mono HB5.out.size)); clear hb6
  go_wp2_with fail
  refine (gets_r _ _ _ many bs HN.out w.heap.size _ (HR.out.below HB6.out) HB6.out.size hb).mono ?_
  intro e w7 h7
  obtain ⟨A8, n8, c8, A9, n9, c9, rfl, hn8, hn9, hr8, hr9, hb7⟩ := h7.flat
  have HR8 := Lib.hid hr8; clear hr8 h7
  have HR9 := Lib.hid hr9; clear hr9
  have HN8 := Lib.hid hn8; clear hn8
  have HN9 := Lib.hid hn9; clear hn9
  have hs7 := hb7.size
  have HBB := Lib.hid hb7
  have HB7 := Lib.hid (HB6.out.trans (hb7.mono HB6.out.size)); clear hb7
  go_wp2_with fail
  refine (samenums_c _ _ _ _ HN6.out _ _ _ _ HN8.out w7.heap.size _ ((HR6.out.below HBB.out).more hs7) HR8.out (by rw [HN6.out]; have := gL_len many bs; unfold big; omega)).mono ?_
  rintro e w8 ⟨rfl, k8, rfl⟩
  rw [decide_eq_true rfl]
  have hcv7 := str8 c7 (HR7.out.below HBB.out) HN7.out
  have hcv9 := str8 c9 HR9.out HN9.out
  have HB8 := Lib.hid (HB7.out.trans (below_drewN _ _ k8))
  have hs8 := HB8.out.size
  go_wp2_with (at_builtin; refine wp_copy8 rfl (.tmp 79) (.tmp 80) rfl (w7.drewN k8) rfl w.heap.size A n c bs rfl HN.out (HR.out.below HB8.out) hs8 hb ?_; intro A10 c10 w10 ho10 hb10)
  have HB10 := Lib.hid (HB8.out.trans (hb10.mono hs8)); clear hb10 hcv7 hcv9
  refine (cut_c _ _ _ bs HN.out ho10.cap w10.heap.size _ ho10.rd (Nat.le_refl _) hb).mono ?_
  intro e w11 h11
  clear ho10
  obtain ⟨A11, n11, c11, A12, n12, c12, rfl, hn11, hn12, hr11, hr12, hb11⟩ := h11.flat
  have HR11 := Lib.hid hr11; clear hr11 h11
  have HR12 := Lib.hid hr12; clear hr12
  have HN11 := Lib.hid hn11; clear hn11
  have HN12 := Lib.hid hn12; clear hn12
  have HB11 := Lib.hid (HB10.out.trans (hb11.mono HB10.out.size)); clear hb11
  go_wp2_with fail
  refine (cut_r _ _ _ bs HN.out hc w.heap.size _ (HR.out.below HB11.out) HB11.out.size hb).mono ?_
  intro e w12 h12
  obtain ⟨A13, n13, c13, A14, n14, c14, rfl, hn13, hn14, hr13, hr14, hb12⟩ := h12.flat
  have hcv11 := str8' c11 (HR11.out.below hb12) HN11.out
  have hcv12 := str8' c12 (HR12.out.below hb12) HN12.out
  have hcv13 := str8' c13 hr13 hn13
  have hcv14 := str8' c14 hr14 hn14
  have HB12 := Lib.hid (HB11.out.trans (hb12.mono HB11.out.size)); clear hb12 h12 hr13 hr14 hn13 hn14
  go_wp2
  go_ret
  exact ⟨rfl, HB12.out⟩
end Go.Proofs.Ytlfolpbgekchjaa.wireGets
