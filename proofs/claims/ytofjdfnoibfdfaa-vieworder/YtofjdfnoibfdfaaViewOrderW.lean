/- The walk of ViewOrder. -/
import Derived.Test.YtofjdfnoibfdfaaVwF
import Derived.Test.YtofjdfnoibfdfaaViewOutW
import Derived.Test.YtofjdfnoibfdfaaRowV
namespace Go.Proofs.Ytofjdfnoibfdfaa.viewOrder
open Go.RowKit
open Chg Vw viewOut

set_option maxHeartbeats 2000000 in
theorem walk (w : World) (A : Option Addr) (n c : Nat) (l : List (Int × Int)) (hn : n = l.length) (_hc : n ≤ c) (_hm : c ≤ maxLen) (hr : Rvi w w.heap.size A l) :
    Calls Try.prog 5 #[.slice A n c] w fun e w' => e = .returned (.bool true) ∧ Below w.heap.size w w' := by
  have heq := eq_view
  clear _hc _hm
  have HN := Lib.hid hn; clear hn
  have HR := Lib.hid hr; clear hr
  go_enter Try.func5, Try.ntmps5
  go_wp2_with fail
  refine (alive_c _).mono ?_
  rintro e w2 ⟨rfl, hb2⟩
  have HB := Lib.hid hb2; clear hb2
  by_cases h30 : 30 < n
  · go_wp2
    go_ret
    exact ⟨rfl, HB.out⟩
  go_wp2
  go_loopw [17] (fun i wr => ∃ k : Nat, i = .int .i64 k ∧ k ≤ n ∧ (∀ x ∈ l.take k, rightB x.1 x.2 = true) ∧ Below w.heap.size w wr) (fun i _ => n - (intOf i).toNat)
  case atStart => exact ⟨0, rfl, by omega, by simp, HB.out⟩
  case round =>
    clear HB
    obtain ⟨k, rfl, hk, hri, hb⟩ := hrel
    have HRI := Lib.hid hri; have HB := Lib.hid hb
    clear hri hb
    by_cases h : k < n
    · obtain ⟨b, o, rfl, hbB, hcell⟩ := HR.out (by rw [← HN.out]; omega)
      have hkl : k < l.length := by rw [← HN.out]; exact h
      have hz : l[k]? = some l[k] := List.getElem?_eq_getElem hkl
      have hc0 := hcell k l[k] hz
      generalize l[k] = x at hz hc0
      obtain ⟨xa, xd⟩ := x
      have hca : wr.cell? ⟨b, o + k * 2, none⟩ = some (.int .i64 xa) := (HB.out.cell hbB).trans hc0.1
      have hcd : wr.cell? ⟨b, o + k * 2 + 1, none⟩ = some (.int .i64 xd) := (HB.out.cell hbB).trans hc0.2
      have HZ := Lib.hid hz
      clear hz hc0 hcell hkl
      go_wp2_with fail
      have HB := Lib.hid (bal HB.out (Nat.le_refl _) (.cells #[.int .i64 xa, .int .i64 xd] 25))
      generalize wr.alloc (.cells #[.int .i64 xa, .int .i64 xd] 25) = w5 at HB ⊢
      clear hca hcd
      refine (right_r xa xd _).mono ?_
      rintro e w6 ⟨rfl, hb6⟩
      have HB := Lib.hid (HB.out.trans (hb6.mono HB.out.size)); clear hb6
      cases hrx : rightB xa xd with
      | false =>
        go_wp2
        go_ret
        exact ⟨rfl, HB.out⟩
      | true =>
      have HRI2 : Hid (∀ x ∈ l.take (k + 1), rightB x.1 x.2 = true) := Lib.hid (by
        rw [List.take_add_one, HZ.out]
        intro x hx
        rcases List.mem_append.1 hx with hx | hx
        · exact HRI.out x hx
        · simp at hx; subst hx; exact hrx)
      clear hrx HRI HZ
      go_wp2
      exact ⟨⟨k + 1, by go_num, by omega, HRI2.out, HB.out⟩, by simp [intOf]; omega⟩
    · obtain rfl : k = n := by omega
      have HR1 : Hid (∀ x ∈ l, rightB x.1 x.2 = true) := Lib.hid (by have := HRI.out; rwa [List.take_of_length_le (by rw [← HN.out]; omega)] at this)
      clear HRI
      obtain ⟨vs, H64, HL⟩ := to_nat l HR1.out
      subst HL
      have HRV := Lib.hid (rv_of HR.out)
      have HN1 : Hid (k = vs.length) := Lib.hid (by rw [HN.out, List.length_map])
      have H64 := Lib.hid H64
      clear HR HR1 HN
      go_wp2
      go_loopw [27] (fun i wq => ∃ i1 : Nat, i = .int .i64 i1 ∧ i1 ≤ k ∧ Below w.heap.size w wq) (fun i _ => k - (intOf i).toNat)
      case atStart => exact ⟨0, rfl, by omega, HB.out⟩
      case round =>
        clear HB
        obtain ⟨i1, rfl, hi1, hb⟩ := hrel
        have HB := Lib.hid hb; clear hb
        by_cases h2 : i1 < k
        · obtain ⟨b, o, rfl, hbB, hcell⟩ := HRV.out (by rw [← HN1.out]; omega)
          have HC := Lib.hid hcell; clear hcell
          have hjl : i1 < vs.length := by rw [← HN1.out]; exact h2
          have hc0 := HC.out i1 vs[i1] (List.getElem?_eq_getElem hjl)
          have hv64 := H64.out vs[i1] (List.getElem_mem hjl)
          generalize vs[i1] = v at hc0 hv64
          obtain ⟨va, vd⟩ := v
          have hca : wr.cell? ⟨b, o + i1 * 2, none⟩ = some (.int .i64 (va : Int)) := (HB.out.cell hbB).trans hc0.1
          have hcd : wr.cell? ⟨b, o + i1 * 2 + 1, none⟩ = some (.int .i64 (vd : Int)) := (HB.out.cell hbB).trans hc0.2
          clear hc0 hjl
          have HV64 := Lib.hid hv64; clear hv64
          go_wp2
          have V1 := Lib.hid (show Vx (wr.alloc (.cells #[.int .i64 (va : Int), .int .i64 (vd : Int)] 25)) wr.heap.size va vd from hat _ _ _ rfl)
          have HB := Lib.hid (bal HB.out (Nat.le_refl _) (.cells #[.int .i64 (va : Int), .int .i64 (vd : Int)] 25))
          generalize wr.alloc (.cells #[.int .i64 (va : Int), .int .i64 (vd : Int)] 25) = w5 at V1 HB ⊢
          generalize wr.heap.size = gv at V1 ⊢
          clear hca hcd
          go_loopw [33] (fun i wq => ∃ i2 : Nat, i = .int .i64 i2 ∧ i2 ≤ k ∧ Vx wq gv va vd ∧ Below w.heap.size w wq) (fun i _ => k - (intOf i).toNat)
          case atStart => exact ⟨0, rfl, by omega, V1.out, HB.out⟩
          case round =>
            clear HB V1
            obtain ⟨i2, rfl, hi2, hv1, hb⟩ := hrel
            have HB := Lib.hid hb; have V1 := Lib.hid hv1; clear hb hv1
            by_cases h3 : i2 < k
            · have hjl : i2 < vs.length := by rw [← HN1.out]; exact h3
              have hc0 := HC.out i2 vs[i2] (List.getElem?_eq_getElem hjl)
              have hv64 := H64.out vs[i2] (List.getElem_mem hjl)
              generalize vs[i2] = u at hc0 hv64
              obtain ⟨ua, ud⟩ := u
              have hca : wr.cell? ⟨b, o + i2 * 2, none⟩ = some (.int .i64 (ua : Int)) := (HB.out.cell hbB).trans hc0.1
              have hcd : wr.cell? ⟨b, o + i2 * 2 + 1, none⟩ = some (.int .i64 (ud : Int)) := (HB.out.cell hbB).trans hc0.2
              clear hc0 hjl
              have HU64 := Lib.hid hv64; clear hv64
              go_wp2
              have V1 := Lib.hid (show Vx (wr.alloc (.cells #[.int .i64 (ua : Int), .int .i64 (ud : Int)] 25)) gv va vd from hbe V1.out)
              have V2 := Lib.hid (show Vx (wr.alloc (.cells #[.int .i64 (ua : Int), .int .i64 (ud : Int)] 25)) wr.heap.size ua ud from hat _ _ _ rfl)
              have HB := Lib.hid (bal HB.out (Nat.le_refl _) (.cells #[.int .i64 (ua : Int), .int .i64 (ud : Int)] 25))
              generalize wr.alloc (.cells #[.int .i64 (ua : Int), .int .i64 (ud : Int)] 25) = w6 at V1 V2 HB ⊢
              generalize wr.heap.size = gu at V2 ⊢
              clear hca hcd
              have HK : Hid (∀ W', Below w6.heap.size w6 W' → (W'.cell? ⟨gv, 0, none⟩ = some (.int .i64 (va : Int)) ∧ W'.cell? ⟨gv, 1, none⟩ = some (.int .i64 (vd : Int))) ∧ W'.cell? ⟨gu, 0, none⟩ = some (.int .i64 (ua : Int)) ∧ W'.cell? ⟨gu, 1, none⟩ = some (.int .i64 (ud : Int))) :=
                Lib.hid (fun W' h => ⟨⟨(V1.out.below h V1.out.lt).c0, (V1.out.below h V1.out.lt).c1⟩, (V2.out.below h V2.out.lt).c0, (V2.out.below h V2.out.lt).c1⟩)
              refine wp_region_held_drew (S := fun W' => Below w6.heap.size w6 W') (by kernel_rfl) (Below.refl _ _).drew (fun hHeld => ?_)
              generalize w6.drew = w7 at hHeld ⊢
              have HB7 : Hid (Below w6.heap.size w6 w7) := hHeld
              clear hHeld
              refine take_in (i := 0) (oi := ⟨_, _, _, _, _, _⟩) (v := ?_) rfl (by kernel_rfl) (by kernel_rfl) (by kernel_rfl) (fun _ _ _ h => h) (by rfl) ?_ HB7.out ?_
              rotate_left
              · intro W hW; have hq := HK.out W hW; go_simp; with_reducible rfl
              simp only [Act.put, List.setIfInBounds_toArray, List.set_cons_zero, List.set_cons_succ]
              refine take_in (i := 1) (oi := ⟨_, _, _, _, _, _⟩) (v := ?_) rfl (by kernel_rfl) (by kernel_rfl) (by kernel_rfl) (fun _ _ _ h => h) (by rfl) ?_ HB7.out ?_
              rotate_left
              · intro W hW; have hq := HK.out W hW; go_simp; with_reducible rfl
              simp only [Act.put, List.setIfInBounds_toArray, List.set_cons_zero, List.set_cons_succ]
              refine take_in (i := 3) (oi := ⟨_, _, _, _, _, _⟩) (v := ?_) rfl (by kernel_rfl) (by kernel_rfl) (by kernel_rfl) (fun _ _ _ h => h) (by rfl) ?_ HB7.out ?_
              rotate_left
              · intro W hW; have hq := HK.out W hW; go_simp; with_reducible rfl
              simp only [Act.put, List.setIfInBounds_toArray, List.set_cons_zero, List.set_cons_succ]
              refine take_in (i := 4) (oi := ⟨_, _, _, _, _, _⟩) (v := ?_) rfl (by kernel_rfl) (by kernel_rfl) (by kernel_rfl) (fun _ _ _ h => h) (by rfl) ?_ HB7.out ?_
              rotate_left
              · intro W hW; have hq := HK.out W hW; go_simp; with_reducible rfl
              simp only [Act.put, List.setIfInBounds_toArray, List.set_cons_zero, List.set_cons_succ]
              refine wpAnyH_ready (rs := [2]) (by kernel_rfl) (by simp) ?_
              refine AllReadyH.cons (o := ⟨_, _, _, _, _, _⟩) rfl (fun K hK => ?_) AllReadyH.nil
              go_simp
              refine (vless_c (va, vd) (ua, ud) HV64.out HU64.out _).mono ?_
              rintro e w8 ⟨rfl, hb8⟩
              have HB8 := Lib.hid (HB7.out.trans (hb8.mono HB7.out.size)); clear hb8
              refine hK.out _ _ HB8.out (fun _ => ?_)
              clear hK K
              refine wpAnyH_ready (rs := [5]) (by kernel_rfl) (by simp) ?_
              refine AllReadyH.cons (o := ⟨_, _, _, _, _, _⟩) rfl (fun K hK => ?_) AllReadyH.nil
              go_simp
              refine (less_r (va, vd) (ua, ud) HV64.out HU64.out _).mono ?_
              rintro e w9 ⟨rfl, hb9⟩
              have HB9 := Lib.hid (HB8.out.trans (hb9.mono HB8.out.size)); clear hb9
              refine hK.out _ _ HB9.out (fun _ => ?_)
              clear hK K
              refine take_in (i := 6) (oi := ⟨_, _, _, _, _, _⟩) (v := ?_) rfl (by kernel_rfl) (by kernel_rfl) (by kernel_rfl) (fun _ _ _ h => h) (by rfl) ?_ HB9.out ?_
              rotate_left
              · intro W hW; go_simp; with_reducible rfl
              simp only [Act.put, List.setIfInBounds_toArray, List.set_cons_zero, List.set_cons_succ]
              refine wpAnyH_done (by kernel_rfl) ?_ _
              go_wp2
              exact ⟨⟨i2 + 1, by go_num, by omega, V1.out.below (HB9.out) V1.out.lt, HB.out.trans (HB9.out.mono HB.out.size)⟩, by simp [intOf]; omega⟩
            · go_wp2
              exact ⟨⟨i1 + 1, by go_num, by omega, HB.out⟩, by simp [intOf]; omega⟩
        · go_wp2_with (at_builtin; refine wp_copyV rfl (.tmp 46) (.tmp 47) rfl wr rfl w.heap.size A k c vs rfl HN1.out (HRV.out.below HB.out) HB.out.size (by omega) ?_; intro A10 c10 w10 hr10 hb10)
          have HL := Lib.hid ((HRV.out.below HB.out).below (hb10.mono HB.out.size))
          have HO := Lib.hid hr10
          have HB := Lib.hid (HB.out.trans (hb10.mono HB.out.size)); clear hb10 hr10 HRV
          refine (alike_c A10 k c10 vs HN1.out (by omega) H64.out _ _ HO.out (Nat.le_refl _)).mono ?_
          rintro e w11 ⟨rfl, hb11⟩
          have HO := Lib.hid ((HO.out.below hb11).more hb11.size)
          have HL := Lib.hid (HL.out.below (hb11.mono HB.out.size))
          have HB := Lib.hid (HB.out.trans (hb11.mono HB.out.size)); clear hb11
          go_wp2_with fail
          refine (alike_r A k c vs HN1.out (by omega) H64.out w.heap.size _ HL.out HB.out.size).mono ?_
          rintro e w12 ⟨rfl, hb12⟩
          have HO := Lib.hid ((HO.out.below hb12).more hb12.size)
          have HL := Lib.hid (HL.out.below (hb12.mono HB.out.size))
          have HB := Lib.hid (HB.out.trans (hb12.mono HB.out.size)); clear hb12
          generalize alike vs = q
          go_wp2_with fail
          refine (top_c A10 k c10 vs HN1.out (by omega) H64.out _ _ HO.out (Nat.le_refl _)).mono ?_
          rintro e w13 ⟨rfl, hb13⟩
          have HO := Lib.hid ((HO.out.below hb13).more hb13.size)
          have HL := Lib.hid (HL.out.below (hb13.mono HB.out.size))
          have HB := Lib.hid (HB.out.trans (hb13.mono HB.out.size)); clear hb13
          unfold vw
          go_wp2_with fail
          refine (top_r A k c vs HN1.out (by omega) H64.out w.heap.size _ HL.out HB.out.size).mono ?_
          rintro e w14 ⟨rfl, hb14⟩
          have HO := Lib.hid ((HO.out.below hb14).more hb14.size)
          have HL := Lib.hid (HL.out.below (hb14.mono HB.out.size))
          have HB := Lib.hid (HB.out.trans (hb14.mono HB.out.size)); clear hb14
          unfold vw
          go_wp2_with fail
          refine (same_r A10 k c10 vs HN1.out (by omega) A k c vs HN1.out w14.heap.size _ HO.out (HL.out.more HB.out.size)).mono ?_
          rw [show (vs == vs) = true from by simp]
          rintro e w15 ⟨rfl, k15, rfl⟩
          have HB := Lib.hid (HB.out.trans ((drewN_below w14 k15).mono HB.out.size))
          go_wp2
          go_ret
          exact ⟨rfl, HB.out⟩
end Go.Proofs.Ytofjdfnoibfdfaa.viewOrder
