/- The walk of ViewOut. -/
import Derived.Test.YtofjdfnoibfdfaaVwF
import Derived.Test.YtofjdfnoibfdfaaVwA
import Derived.Test.YtofjdfnoibfdfaaVwQ
import Derived.Test.YtofjdfnoibfdfaaOpenW
import Derived.Test.YtofjdfnoibfdfaaWf
namespace Go.Proofs.Ytofjdfnoibfdfaa.viewOut
open Go.RowKit
open Chg Vw

theorem shr_all : ∀ (d : Fin 64) (k : Fin 6), bits .and .i64 ((d.1 : Int) / 2 ^ k.1) 1 = 1 → d.1.testBit k.1 = true := by decide +kernel
theorem shr_bit (d k : Nat) (hd : d < 64) (hk : k < 6) (h : bits .and .i64 ((d : Int) / 2 ^ k) 1 = 1) : d.testBit k = true := shr_all ⟨d, hd⟩ ⟨k, hk⟩ h
theorem to_nat (l : List (Int × Int)) (h : ∀ x ∈ l, rightB x.1 x.2 = true) : ∃ vs : List (Nat × Nat), (∀ v ∈ vs, v.1 < 64 ∧ v.2 < 64) ∧ l = vs.map fun v => ((v.1 : Int), (v.2 : Int)) := by
  induction l with
  | nil => exact ⟨[], by simp, rfl⟩
  | cons x l ih =>
    obtain ⟨vs, h1, rfl⟩ := ih (fun y hy => h y (List.mem_cons_of_mem _ hy))
    obtain ⟨x1, x2⟩ := x
    obtain ⟨m, n, rfl, rfl, hm, hn⟩ := right_nat (h _ (List.mem_cons_self ..))
    refine ⟨(m, n) :: vs, fun v hv => ?_, rfl⟩
    rcases List.mem_cons.1 hv with rfl | hv
    · exact ⟨hm, hn⟩
    · exact h1 v hv
theorem rv_of {w : World} {B : Nat} {A : Option Addr} {vs : List (Nat × Nat)} (h : Rvi w B A (vs.map fun v => ((v.1 : Int), (v.2 : Int)))) : Rv w B A vs := by
  intro hn
  obtain ⟨b, o, e, hB, hc⟩ := h (by rw [List.length_map]; exact hn)
  exact ⟨b, o, e, hB, fun j v hv => hc j _ (by rw [List.getElem?_map, hv]; rfl)⟩

set_option maxHeartbeats 1000000 in
theorem walk (w : World) (a : Int) (_ : (Lit.int .i64 a).wf = true) (d : Int) (_ : (Lit.int .i64 d).wf = true)
    (A : Option Addr) (n c : Nat) (l : List (Int × Int)) (hn : n = l.length) (_hc : n ≤ c) (_hm : c ≤ maxLen) (hr : Rvi w w.heap.size A l) (node : Int) (hnode : (Lit.int .i64 node).wf = true) :
    Calls Try.prog 7 #[vw a d, .slice A n c, .int .i64 node] w fun e w' => e = .returned (.bool true) ∧ Below w.heap.size w w' := by
  have hnd := wf_i64 hnode
  clear _hc _hm hnode
  have HN := Lib.hid hn; clear hn
  have HR := Lib.hid hr; clear hr
  unfold vw
  go_enter Try.func7, Try.ntmps7
  go_wp2_with fail
  have HV := Lib.hid (show Vi (w.alloc (.cells #[.int .i64 a, .int .i64 d] 25)) w.heap.size a d from hat _ _ _ rfl)
  have HB := Lib.hid (bal (Below.refl w.heap.size w) (Nat.le_refl _) (.cells #[.int .i64 a, .int .i64 d] 25))
  generalize w.alloc (.cells #[.int .i64 a, .int .i64 d] 25) = w1 at HV HB ⊢
  refine (alive_c _).mono ?_
  rintro e w2 ⟨rfl, hb2⟩
  have HV := Lib.hid (HV.out.below hb2)
  have HB := Lib.hid (HB.out.trans (hb2.mono HB.out.size)); clear hb2
  have a0 := HV.out.c0; have a1 := HV.out.c1
  go_wp2_with fail
  refine (right_c a d _).mono ?_
  rintro e w3 ⟨rfl, hb3⟩
  have HV := Lib.hid (HV.out.below hb3)
  have HB := Lib.hid (HB.out.trans (hb3.mono HB.out.size)); clear hb3 a0 a1
  cases hra : rightB a d with
  | false =>
    go_wp2
    go_ret
    exact ⟨rfl, HB.out⟩
  | true =>
  obtain ⟨a, d, rfl, rfl, ha, hd⟩ := right_nat hra
  clear hra
  by_cases h30 : 30 < n
  · go_wp2
    go_ret
    exact ⟨rfl, HB.out⟩
  have a0 := HV.out.c0; have a1 := HV.out.c1
  go_wp2
  clear a0 a1
  have hg := HV.out.lt
  go_loopw [25] (fun i wr => ∃ k : Nat, i = .int .i64 k ∧ k ≤ n ∧ ∃ ea ed : Nat, ea < 64 ∧ ed < 64 ∧ (∀ i, d.testBit i = true → ed.testBit i = true) ∧ (∀ x ∈ l.take k, rightB x.1 x.2 = true) ∧ Vi wr w.heap.size a d ∧ Vi wr w3.heap.size ea ed ∧ Below w.heap.size w wr) (fun i _ => n - (intOf i).toNat)
  case atStart => exact ⟨0, rfl, by omega, a, d, ha, hd, fun _ h => h, by simp, hbe HV.out, hat _ _ _ rfl, bal HB.out (Nat.le_refl _) _⟩
  case round =>
    clear HV HB
    obtain ⟨k, rfl, hk, ea, ed, hea, hed, hin, hri, hv, hv2, hb⟩ := hrel
    have HIN := Lib.hid hin; have HRI := Lib.hid hri; have HV := Lib.hid hv; have HV2 := Lib.hid hv2; have HB := Lib.hid hb
    clear hin hri hv hv2 hb
    by_cases h : k < n
    · obtain ⟨b, o, rfl, hbB, hcell⟩ := HR.out (by rw [← HN.out]; omega)
      have hkl : k < l.length := by rw [← HN.out]; exact h
      have hz : l[k]? = some l[k] := List.getElem?_eq_getElem hkl
      have hc0 := hcell k l[k] hz
      generalize l[k] = x at hz hc0
      obtain ⟨xa, xd⟩ := x
      have hca : wr.cell? ⟨b, o + k * 2, none⟩ = some (.int .i64 xa) := (HB.out.cell hbB).trans hc0.1
      have hcd : wr.cell? ⟨b, o + k * 2 + 1, none⟩ = some (.int .i64 xd) := (HB.out.cell hbB).trans hc0.2
      have HZ := Lib.hid hz
      clear hz hc0 hcell hkl
      have hsz := HV2.out.lt
      go_wp2_with fail
      have V0 := Lib.hid (show Vi (wr.alloc (.cells #[.int .i64 xa, .int .i64 xd] 25)) w.heap.size a d from hbe HV.out)
      have V1 := Lib.hid (show Vi (wr.alloc (.cells #[.int .i64 xa, .int .i64 xd] 25)) w3.heap.size ea ed from hbe HV2.out)
      have V2 := Lib.hid (show Vi (wr.alloc (.cells #[.int .i64 xa, .int .i64 xd] 25)) wr.heap.size xa xd from hat _ _ _ rfl)
      have HB := Lib.hid (bal HB.out (Nat.le_refl _) (.cells #[.int .i64 xa, .int .i64 xd] 25))
      generalize wr.alloc (.cells #[.int .i64 xa, .int .i64 xd] 25) = w5 at V0 V1 V2 HB ⊢
      generalize wr.heap.size = gu at V2 hsz ⊢
      clear hca hcd HV HV2
      refine (right_c xa xd _).mono ?_
      rintro e w6 ⟨rfl, hb6⟩
      have V0 := Lib.hid (V0.out.below hb6)
      have V1 := Lib.hid (V1.out.below hb6)
      have V2 := Lib.hid (V2.out.below hb6)
      have HB := Lib.hid (HB.out.trans (hb6.mono HB.out.size)); clear hb6
      cases hrx : rightB xa xd with
      | false =>
        go_wp2
        go_ret
        exact ⟨rfl, HB.out⟩
      | true =>
      have HRI2 : Hid (∀ x ∈ l.take (k + 1), rightB x.1 x.2 = true) := Lib.hid (by
        rw [List.take_add_one, HZ.out]
        intro x hx
        rcases List.mem_append.1 hx with hx | hx
        · exact HRI.out x hx
        · simp at hx; subst hx; exact hrx)
      obtain ⟨xa, xd, rfl, rfl, hxa, hxd⟩ := right_nat hrx
      clear hrx HRI HZ
      have z0 := V1.out.c0; have z1 := V1.out.c1; have c0 := V2.out.c0; have c1 := V2.out.c1
      go_wp2_with fail
      have RR := Lib.hid (show Rv (w6.alloc (.cells #[.int .i64 (ea : Int), .int .i64 (ed : Int), .int .i64 (xa : Int), .int .i64 (xd : Int)] 25)) (w6.heap.size + 1) (some ⟨w6.heap.size, 0, none⟩) [(ea, ed), (xa, xd)] from rv_new w6 [(ea, ed), (xa, xd)])
      have V0 := Lib.hid (show Vi (w6.alloc (.cells #[.int .i64 (ea : Int), .int .i64 (ed : Int), .int .i64 (xa : Int), .int .i64 (xd : Int)] 25)) w.heap.size a d from hbe V0.out)
      have V1 := Lib.hid (show Vi (w6.alloc (.cells #[.int .i64 (ea : Int), .int .i64 (ed : Int), .int .i64 (xa : Int), .int .i64 (xd : Int)] 25)) w3.heap.size ea ed from hbe V1.out)
      have HB := Lib.hid (bal HB.out (Nat.le_refl _) (.cells #[.int .i64 (ea : Int), .int .i64 (ed : Int), .int .i64 (xa : Int), .int .i64 (xd : Int)] 25))
      have hs7 : w6.heap.size + 1 ≤ (w6.alloc (.cells #[.int .i64 (ea : Int), .int .i64 (ed : Int), .int .i64 (xa : Int), .int .i64 (xd : Int)] 25)).heap.size := by simp
      generalize w6.alloc (.cells #[.int .i64 (ea : Int), .int .i64 (ed : Int), .int .i64 (xa : Int), .int .i64 (xd : Int)] 25) = w7 at RR V0 V1 HB hs7 ⊢
      generalize w6.heap.size = gl at RR hs7 ⊢
      clear z0 z1 c0 c1 V2
      refine (join_c _ 2 2 [(ea, ed), (xa, xd)] rfl (by omega) (by simp; omega) _ _ RR.out hs7).mono ?_
      rw [join2 ea ed xa xd hea hed hxa hxd]
      rintro e w8 ⟨rfl, hb8⟩
      have V0 := Lib.hid (V0.out.below hb8)
      have V1 := Lib.hid (V1.out.below hb8)
      have HB := Lib.hid (HB.out.trans (hb8.mono HB.out.size)); clear hb8 hs7 RR
      unfold vw
      have hea' := or_lt hea hxa
      have hed' := or_lt hed hxd
      have HIN2 : Hid (∀ i, d.testBit i = true → (ed ||| xd).testBit i = true) := Lib.hid (fun i hi => by rw [Nat.testBit_or, HIN.out i hi]; rfl)
      show _
      generalize ea ||| xa = fa at hea' ⊢
      generalize ed ||| xd = fd at hed' HIN2 ⊢
      clear hxa hxd HIN
      have z0 := V1.out.c0; have z1 := V1.out.c1
      have z2 := frozen_of_row w8 w3.heap.size 0 _ _ V1.out
      have z3 := frozen_of_row w8 w3.heap.size 1 _ _ V1.out
      have y0 := V0.out.c0; have y1 := V0.out.c1
      by_cases hn0 : node < 0
      · go_wp2
        refine ⟨⟨k + 1, by go_num, by omega, fa, fd, hea', hed', HIN2.out, HRI2.out, ?_, ?_, ?_⟩, by simp [intOf]; omega⟩
        · exact (Vx.other V0.out (by simp; omega) _).other (by simp; omega) _
        · exact Vx.put V1.out fa fd
        · exact (HB.out.setCell (by simp; omega) _).setCell (by simp; omega) _
      by_cases hn6 : 6 ≤ node
      · go_wp2
        refine ⟨⟨k + 1, by go_num, by omega, fa, fd, hea', hed', HIN2.out, HRI2.out, ?_, ?_, ?_⟩, by simp [intOf]; omega⟩
        · exact (Vx.other V0.out (by simp; omega) _).other (by simp; omega) _
        · exact Vx.put V1.out fa fd
        · exact (HB.out.setCell (by simp; omega) _).setCell (by simp; omega) _
      obtain ⟨kk, rfl⟩ : ∃ kk : Nat, node = (kk : Int) := ⟨node.toNat, by omega⟩
      have hkk : kk < 6 := by omega
      clear hn0 hn6
      by_cases hbt : bits .and .i64 ((d : Int) / 2 ^ kk) 1 = 1
      · have HBT := Lib.hid (shr_bit d kk hd hkk hbt)
        go_wp2_with fail
        have V0 := Lib.hid (show Vi ((w8.setCell ⟨w3.heap.size, 0, none⟩ (.int .i64 (fa : Int))).setCell ⟨w3.heap.size, 1, none⟩ (.int .i64 (fd : Int))) w.heap.size a d from (Vx.other V0.out (by simp; omega) _).other (by simp; omega) _)
        have V1 := Lib.hid (show Vi ((w8.setCell ⟨w3.heap.size, 0, none⟩ (.int .i64 (fa : Int))).setCell ⟨w3.heap.size, 1, none⟩ (.int .i64 (fd : Int))) w3.heap.size fa fd from Vx.put V1.out fa fd)
        have HB := Lib.hid (show Below w.heap.size w ((w8.setCell ⟨w3.heap.size, 0, none⟩ (.int .i64 (fa : Int))).setCell ⟨w3.heap.size, 1, none⟩ (.int .i64 (fd : Int))) from (HB.out.setCell (by simp; omega) _).setCell (by simp; omega) _)
        generalize ((w8.setCell ⟨w3.heap.size, 0, none⟩ (.int .i64 (fa : Int))).setCell ⟨w3.heap.size, 1, none⟩ (.int .i64 (fd : Int))) = w9 at V0 V1 HB ⊢
        clear z0 z1 z2 z3 y0 y1 hbt
        refine (in_c fa fd hea' hed' (kk : Int) (by omega) _).mono ?_
        rw [show inN fa fd (kk : Int) = false from by unfold inN; rw [Int.toNat_natCast, out_stays fa d fd kk HBT.out HIN2.out, Bool.and_false]]
        rintro e w10 ⟨rfl, hb10⟩
        have V0 := Lib.hid (V0.out.below hb10)
        have V1 := Lib.hid (V1.out.below hb10)
        have HB := Lib.hid (HB.out.trans (hb10.mono HB.out.size)); clear hb10
        go_wp2
        exact ⟨⟨k + 1, by go_num, by omega, fa, fd, hea', hed', HIN2.out, HRI2.out, V0.out, V1.out, HB.out⟩, by simp [intOf]; omega⟩
      · go_wp2
        refine ⟨⟨k + 1, by go_num, by omega, fa, fd, hea', hed', HIN2.out, HRI2.out, ?_, ?_, ?_⟩, by simp [intOf]; omega⟩
        · exact (Vx.other V0.out (by simp; omega) _).other (by simp; omega) _
        · exact Vx.put V1.out fa fd
        · exact (HB.out.setCell (by simp; omega) _).setCell (by simp; omega) _
    · obtain rfl : k = n := by omega
      have HR1 : Hid (∀ x ∈ l, rightB x.1 x.2 = true) := Lib.hid (by have := HRI.out; rwa [List.take_of_length_le (by rw [← HN.out]; omega)] at this)
      clear HRI
      obtain ⟨vs, H64, HL⟩ := to_nat l HR1.out
      subst HL
      have HRV := Lib.hid (rv_of HR.out)
      have HN1 : Hid (k = vs.length) := Lib.hid (by rw [HN.out, List.length_map])
      have H64 := Lib.hid H64
      clear HR HR1 HN
      go_wp2_with fail
      refine (alike_c A k c vs HN1.out (by omega) H64.out w.heap.size _ (HRV.out.below HB.out) HB.out.size).mono ?_
      rintro e w5 ⟨rfl, hb5⟩
      have HB := Lib.hid (HB.out.trans (hb5.mono HB.out.size)); clear hb5
      cases hal : alike vs with
      | false =>
        go_wp2
        go_ret
        exact ⟨rfl, HB.out⟩
      | true =>
      have HAL := Lib.hid hal; clear hal
      rcases Nat.eq_zero_or_pos k with h0 | h0
      · subst h0
        go_wp2
        go_ret
        exact ⟨rfl, HB.out⟩
      have hk0 : ((k : Int) == 0) = false := by rw [beq_eq_false_iff_ne]; omega
      go_wp2
      clear hk0
      go_loopw [66] (fun i wq => ∃ j : Nat, i = .int .i64 j ∧ j ≤ k ∧ Below w.heap.size w wq) (fun i _ => k - (intOf i).toNat)
      case atStart => exact ⟨0, rfl, by omega, HB.out⟩
      case round =>
        clear HB
        obtain ⟨j, rfl, hj, hb⟩ := hrel
        have HB := Lib.hid hb; clear hb
        by_cases h2 : j < k
        · obtain ⟨b, o, rfl, hbB, hcell⟩ := HRV.out (by rw [← HN1.out]; omega)
          have hjl : j < vs.length := by rw [← HN1.out]; exact h2
          have hz : vs[j]? = some vs[j] := List.getElem?_eq_getElem hjl
          have hc0 := hcell j vs[j] hz
          have HW := Lib.hid (top_holds vs H64.out HAL.out vs[j] (List.getElem_mem hjl))
          have hv64 := H64.out vs[j] (List.getElem_mem hjl)
          generalize vs[j] = v at hz hc0 HW hv64
          obtain ⟨va, vd⟩ := v
          have hva : va < 64 := hv64.1
          have hvd : vd < 64 := hv64.2
          have hca : wr.cell? ⟨b, o + j * 2, none⟩ = some (.int .i64 (va : Int)) := (HB.out.cell hbB).trans hc0.1
          have hcd : wr.cell? ⟨b, o + j * 2 + 1, none⟩ = some (.int .i64 (vd : Int)) := (HB.out.cell hbB).trans hc0.2
          clear hz hc0 hcell hjl hv64
          go_wp2
          have V2 := Lib.hid (show Vx (wr.alloc (.cells #[.int .i64 (va : Int), .int .i64 (vd : Int)] 25)) wr.heap.size va vd from hat _ _ _ rfl)
          have HB := Lib.hid (bal HB.out (Nat.le_refl _) (.cells #[.int .i64 (va : Int), .int .i64 (vd : Int)] 25))
          generalize wr.alloc (.cells #[.int .i64 (va : Int), .int .i64 (vd : Int)] 25) = w6 at V2 HB ⊢
          generalize wr.heap.size = gu at V2 ⊢
          clear hca hcd
          have HK : Hid (∀ W', Below w6.heap.size w6 W' → W'.cell? ⟨gu, 0, none⟩ = some (.int .i64 (va : Int)) ∧ W'.cell? ⟨gu, 1, none⟩ = some (.int .i64 (vd : Int))) := Lib.hid (fun W' h => ⟨(V2.out.below h V2.out.lt).c0, (V2.out.below h V2.out.lt).c1⟩)
          have HT := Lib.hid (top_lt vs H64.out)
          refine wp_region_held_drew (S := fun W' => Below w6.heap.size w6 W') (by kernel_rfl) (Below.refl _ _).drew (fun hHeld => ?_)
          generalize w6.drew = w7 at hHeld ⊢
          have HB7 : Hid (Below w6.heap.size w6 w7) := hHeld
          clear hHeld
          refine take_in (i := 0) (oi := ⟨_, _, _, _, _, _⟩) (v := ?_) rfl (by kernel_rfl) (by kernel_rfl) (by kernel_rfl) (fun _ _ _ h => h) (by rfl) ?_ HB7.out ?_
          rotate_left
          · intro W hW; have hq := HK.out W hW; go_simp; with_reducible rfl
          simp only [Act.put, List.setIfInBounds_toArray, List.set_cons_zero, List.set_cons_succ]
          refine take_in (i := 1) (oi := ⟨_, _, _, _, _, _⟩) (v := ?_) rfl (by kernel_rfl) (by kernel_rfl) (by kernel_rfl) (fun _ _ _ h => h) (by rfl) ?_ HB7.out ?_
          rotate_left
          · intro W hW; have hq := HK.out W hW; go_simp; with_reducible rfl
          simp only [Act.put, List.setIfInBounds_toArray, List.set_cons_zero, List.set_cons_succ]
          refine wpAnyH_ready (rs := [2]) (by kernel_rfl) (by simp) ?_
          refine AllReadyH.cons (o := ⟨_, _, _, _, _, _⟩) rfl (fun K hK => ?_) AllReadyH.nil
          go_simp
          refine (top_c _ k c vs HN1.out (by omega) H64.out w.heap.size _ (HRV.out.below (HB.out.trans (HB7.out.mono HB.out.size))) (Nat.le_trans HB.out.size HB7.out.size)).mono ?_
          rintro e w8 ⟨rfl, hb8⟩
          have HB8 := Lib.hid (HB7.out.trans (hb8.mono HB7.out.size)); clear hb8
          refine hK.out _ _ HB8.out (fun _ => ?_)
          clear hK K
          unfold vw
          refine wpAnyH_ready (rs := [3]) (by kernel_rfl) (by simp) ?_
          refine AllReadyH.cons (o := ⟨_, _, _, _, _, _⟩) rfl (fun K hK => ?_) AllReadyH.nil
          go_simp
          refine (within_c va vd hva hvd (top vs).1 (top vs).2 HT.out.1 HT.out.2 _).mono ?_
          rw [show withinV va vd (top vs).1 (top vs).2 = true from HW.out]
          rintro e w9 ⟨rfl, hb9⟩
          have HB9 := Lib.hid (HB8.out.trans (hb9.mono HB8.out.size)); clear hb9
          refine hK.out _ _ HB9.out (fun _ => ?_)
          clear hK K
          refine take_in (i := 4) (oi := ⟨_, _, _, _, _, _⟩) (v := ?_) rfl (by kernel_rfl) (by kernel_rfl) (by kernel_rfl) (fun _ _ _ h => h) (by rfl) ?_ HB9.out ?_
          rotate_left
          · intro W hW; go_simp; with_reducible rfl
          simp only [Act.put, List.setIfInBounds_toArray, List.set_cons_zero, List.set_cons_succ]
          refine wpAnyH_done (by kernel_rfl) ?_ _
          go_wp2
          exact ⟨⟨j + 1, by go_num, by omega, HB.out.trans (HB9.out.mono HB.out.size)⟩, by simp [intOf]; omega⟩
        · go_wp2
          go_ret
          exact ⟨rfl, HB.out⟩
end Go.Proofs.Ytofjdfnoibfdfaa.viewOut
