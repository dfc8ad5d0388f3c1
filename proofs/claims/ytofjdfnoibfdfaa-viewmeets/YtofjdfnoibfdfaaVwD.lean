/- What Less and Top of package view answer; the order's own contract, whose world is told as 'draws, and blocks behind'. -/
import Derived.Test.YtofjdfnoibfdfaaVwC
import Derived.Test.YtofjdfnoibfdfaaVwB
import Derived.Test.YtofjdfnoibfdfaaReg
import Derived.Sort.Grow
import Derived.Deep.Draws
namespace Go.Proofs.Ytofjdfnoibfdfaa
open Go.RowKit
open Chg Vw

/-- some draws, and blocks behind: nothing else has turned -/
def Gr (w w' : World) : Prop := ∃ q os, w' = Sort.grow (w.drewN q) os
theorem Gr.refl (w : World) : Gr w w := ⟨0, #[], by rw [Sort.grow_empty]; rfl⟩
theorem Gr.alloc {w w' : World} (h : Gr w w') (o : Obj) : Gr w (w'.alloc o) := by
  obtain ⟨q, os, rfl⟩ := h
  exact ⟨q, os ++ #[o], by rw [Sort.alloc_eq_grow, Sort.grow_grow]⟩
theorem Gr.trans {a b c : World} (h : Gr a b) (k : Gr b c) : Gr a c := by
  obtain ⟨q, os, rfl⟩ := h
  obtain ⟨q2, os2, rfl⟩ := k
  exact ⟨q + q2, os ++ os2, by
    show Sort.grow (Sort.grow ((a.drewN q).drewN q2) os) os2 = _
    rw [Sort.grow_grow, World.drewN_drewN]⟩
theorem Gr.drew {w w' : World} (h : Gr w w') : Gr w w'.drew := h.trans ⟨1, #[], by rw [Sort.grow_empty]; rfl⟩
theorem Gr.drewN {w w' : World} (h : Gr w w') (k : Nat) : Gr w (w'.drewN k) := h.trans ⟨k, #[], by rw [Sort.grow_empty]⟩
theorem Gr.below {w w' : World} (h : Gr w w') : Below w.heap.size w w' := by
  obtain ⟨q, os, rfl⟩ := h
  exact ⟨rfl, rfl, rfl, by rw [Sort.size_grow]; exact Nat.le_add_right _ _, fun k hk => Sort.heap_grow_old _ os hk⟩
theorem size_g (a d : Nat) (ha : a < 64) (hd : d < 64) (w : World) : Calls Try.prog 41 #[vw a d] w fun e w' => e = .returned (.int .i64 ((cnt a + cnt d : Nat) : Int)) ∧ Gr w w' := by
  have hca := cnt_le a
  have hcd := cnt_le d
  unfold vw
  go_enter Try.func41, Try.ntmps41
  go_wp2_with fail
  go_quiet (first | (go_at_call 57; refine Calls.quiet_of_same ((ones_c _ ?_ _).mono fun _ _ h => ⟨h.1, h.2.symm⟩); assumption))
  go_wp2
  go_ret
  exact ⟨ret_i64 (by omega), ((Gr.refl w).alloc _).drewN _⟩
theorem name_g (a d : Nat) (ha : a < 64) (hd : d < 64) (w : World) : Calls Try.prog 42 #[vw a d] w fun e w' => e = .returned (.int .i64 ((64 * a + d : Nat) : Int)) ∧ Gr w w' := by
  unfold vw
  go_enter Try.func42, Try.ntmps42
  go_wp2
  go_ret
  exact ⟨ret_i64 (by omega), (Gr.refl w).alloc _⟩
theorem isnan_c (x : Int) (w : World) : Calls Try.prog 56 #[.int .i64 x] w fun e w' => e = .returned (.bool false) ∧ w = w' := by
  go_enter Try.func56, Try.ntmps56
  go_wp2
  go_ret
  exact ⟨by simp, rfl⟩
theorem cmp_c (x y : Int) (w : World) : Calls Try.prog 40 #[.int .i64 x, .int .i64 y] w fun e w' => e = .returned (.int .i64 (cmpI x y)) ∧ w = w' := by
  obtain ⟨r, hr⟩ : ∃ r, r = cmpI x y := ⟨_, rfl⟩
  rw [← hr]
  have HR := Lib.hid hr; clear hr
  unfold cmpI at HR
  go_enter Try.func40, Try.ntmps40
  go_wp2_with (first | (go_at_call 56; refine (isnan_c _ _).mono ?_; rintro e w' ⟨rfl, rfl⟩))
  · rename_i h
    go_ret
    refine ⟨ret_i64 ?_, rfl⟩
    rw [HR.out, if_pos h]
  · rename_i h1 h2
    go_ret
    refine ⟨ret_i64 ?_, rfl⟩
    rw [HR.out, if_neg (by omega), if_pos h2]
  · rename_i h1 h2
    go_ret
    refine ⟨ret_i64 ?_, rfl⟩
    rw [HR.out, if_neg (by omega), if_neg (by omega)]
theorem or_c (A : Option Addr) (x y : Int) (B : Nat) (w : World) (hr : Rd w B A (([x, y] : List Int).map (Value.int .i64))) :
    Calls Try.prog 39 #[.slice A 2 2] w fun e w' => e = .returned (.int .i64 (if x = 0 then y else x)) ∧ w = w' := by
  obtain ⟨b, o, rfl, _, hcell⟩ := hr (by simp)
  have hx := hcell 0 (.int .i64 x) (by simp)
  have hy := hcell 1 (.int .i64 y) (by simp)
  rw [Nat.add_zero] at hx
  clear hcell hr
  obtain ⟨r, hr⟩ : ∃ r, r = if x = 0 then y else x := ⟨_, rfl⟩
  rw [← hr]
  have HR := Lib.hid hr; clear hr
  go_enter Try.func39, Try.ntmps39
  go_wp2
  go_loop [8] (fun i => ∃ k : Nat, i = .int .i64 k ∧ (k = 0 ∨ (k = 1 ∧ x = 0) ∨ (k = 2 ∧ x = 0 ∧ y = 0))) (fun i => 2 - (intOf i).toNat)
  case atStart => exact ⟨0, rfl, Or.inl rfl⟩
  case round =>
    obtain ⟨k, rfl, rfl | ⟨rfl, h0⟩ | ⟨rfl, h0, h1⟩⟩ := hrel
    · by_cases h0 : x = 0
      · have HX := Lib.hid h0
        have hq : (x != 0) = false := by rw [h0]; rfl
        clear h0
        go_wp2
        exact ⟨⟨1, rfl, Or.inr (Or.inl ⟨rfl, HX.out⟩)⟩, by simp [intOf]⟩
      · have hq : (x != 0) = true := by rw [bne_iff_ne]; exact h0
        have HE : Hid (r = x) := Lib.hid (by rw [HR.out, if_neg h0])
        clear h0
        go_wp2
        go_ret
        exact ⟨ret_i64 HE.out.symm, rfl⟩
    · have HE : Hid (r = y) := Lib.hid (by rw [HR.out, if_pos h0])
      have HX := Lib.hid h0
      clear h0 hx
      by_cases h1 : y = 0
      · have HY := Lib.hid h1
        have hq : (y != 0) = false := by rw [h1]; rfl
        clear h1
        go_wp2
        exact ⟨⟨2, rfl, Or.inr (Or.inr ⟨rfl, HX.out, HY.out⟩)⟩, by simp [intOf]⟩
      · have hq : (y != 0) = true := by rw [bne_iff_ne]; exact h1
        clear h1
        go_wp2
        go_ret
        exact ⟨ret_i64 HE.out.symm, rfl⟩
    · have HE : Hid (r = 0) := Lib.hid (by rw [HR.out, if_pos h0, h1])
      clear h0 h1
      go_wp2
      go_ret
      exact ⟨ret_i64 HE.out.symm, rfl⟩
set_option maxHeartbeats 1000000 in
theorem order_g (u v : Nat × Nat) (hu : u.1 < 64 ∧ u.2 < 64) (hv : v.1 < 64 ∧ v.2 < 64) (w : World) : Calls Try.prog 30 #[vw u.1 u.2, vw v.1 v.2] w fun e w' => e = .returned (.int .i64 (ordV u v)) ∧ Gr w w' := by
  obtain ⟨a, d⟩ := u
  obtain ⟨b, c⟩ := v
  have ha : a < 64 := hu.1
  have hd : d < 64 := hu.2
  have hb : b < 64 := hv.1
  have hc : c < 64 := hv.2
  clear hu hv
  have HL : Hid (ordV (a, d) (b, c) = if cmpI ((cnt a + cnt d : Nat) : Int) ((cnt b + cnt c : Nat) : Int) = 0 then cmpI ((64 * a + d : Nat) : Int) ((64 * b + c : Nat) : Int) else cmpI ((cnt a + cnt d : Nat) : Int) ((cnt b + cnt c : Nat) : Int)) := Lib.hid rfl
  generalize ordV (a, d) (b, c) = r at HL ⊢
  have HS1 := Lib.hid (size_g a d ha hd)
  have HS2 := Lib.hid (size_g b c hb hc)
  have HN1 := Lib.hid (name_g a d ha hd)
  have HN2 := Lib.hid (name_g b c hb hc)
  generalize ((cnt a + cnt d : Nat) : Int) = s1 at HL HS1
  generalize ((cnt b + cnt c : Nat) : Int) = s2 at HL HS2
  generalize ((64 * a + d : Nat) : Int) = n1 at HL HN1
  generalize ((64 * b + c : Nat) : Int) = n2 at HL HN2
  show Calls Try.prog 30 #[vw a d, vw b c] w _
  unfold vw
  go_enter Try.func30, Try.ntmps30
  go_wp2_with fail
  have V1 := Lib.hid (show Vx ((w.alloc (.cells #[.int .i64 (a : Int), .int .i64 (d : Int)] 25)).alloc (.cells #[.int .i64 (b : Int), .int .i64 (c : Int)] 25)) w.heap.size a d from hbe (hat _ _ _ rfl))
  have V2 := Lib.hid (show Vx ((w.alloc (.cells #[.int .i64 (a : Int), .int .i64 (d : Int)] 25)).alloc (.cells #[.int .i64 (b : Int), .int .i64 (c : Int)] 25)) (w.heap.size + 1) b c from hat _ _ _ (by simp))
  have HG := Lib.hid (((Gr.refl w).alloc (.cells #[.int .i64 (a : Int), .int .i64 (d : Int)] 25)).alloc (.cells #[.int .i64 (b : Int), .int .i64 (c : Int)] 25))
  generalize ((w.alloc (.cells #[.int .i64 (a : Int), .int .i64 (d : Int)] 25)).alloc (.cells #[.int .i64 (b : Int), .int .i64 (c : Int)] 25)) = w1 at V1 V2 HG ⊢
  have HK : Hid (∀ W', Gr w1 W' → (W'.cell? ⟨w.heap.size, 0, none⟩ = some (.int .i64 (a : Int)) ∧ W'.cell? ⟨w.heap.size, 1, none⟩ = some (.int .i64 (d : Int))) ∧ (W'.cell? ⟨w.heap.size + 1, 0, none⟩ = some (.int .i64 (b : Int)) ∧ W'.cell? ⟨w.heap.size + 1, 1, none⟩ = some (.int .i64 (c : Int)))) := Lib.hid (by
    intro W' h
    have V1 := V1.out.below h.below V1.out.lt
    have V2 := V2.out.below h.below V2.out.lt
    exact ⟨⟨V1.c0, V1.c1⟩, V2.c0, V2.c1⟩)
  clear V1 V2
  refine wp_region_held_drew (S := fun W' => Gr w1 W') (by kernel_rfl) (Gr.refl _).drew (fun hHeld => ?_)
  generalize w1.drew = w2 at hHeld ⊢
  have HG2 : Hid (Gr w1 w2) := hHeld
  clear hHeld
  refine take_in (i := 0) (oi := ⟨_, _, _, _, _, _⟩) (v := ?_) rfl (by kernel_rfl) (by kernel_rfl) (by kernel_rfl) (fun _ _ _ h => h) (by rfl) ?_ HG2.out ?_
  rotate_left
  · intro W hW; have hq := HK.out W hW; go_simp; with_reducible rfl
  simp only [Act.put, List.setIfInBounds_toArray, List.set_cons_zero, List.set_cons_succ]
  refine take_in (i := 2) (oi := ⟨_, _, _, _, _, _⟩) (v := ?_) rfl (by kernel_rfl) (by kernel_rfl) (by kernel_rfl) (fun _ _ _ h => h) (by rfl) ?_ HG2.out ?_
  rotate_left
  · intro W hW; have hq := HK.out W hW; go_simp; with_reducible rfl
  simp only [Act.put, List.setIfInBounds_toArray, List.set_cons_zero, List.set_cons_succ]
  refine take_in (i := 5) (oi := ⟨_, _, _, _, _, _⟩) (v := ?_) rfl (by kernel_rfl) (by kernel_rfl) (by kernel_rfl) (fun _ _ _ h => h) (by rfl) ?_ HG2.out ?_
  rotate_left
  · intro W hW; have hq := HK.out W hW; go_simp; with_reducible rfl
  simp only [Act.put, List.setIfInBounds_toArray, List.set_cons_zero, List.set_cons_succ]
  refine take_in (i := 7) (oi := ⟨_, _, _, _, _, _⟩) (v := ?_) rfl (by kernel_rfl) (by kernel_rfl) (by kernel_rfl) (fun _ _ _ h => h) (by rfl) ?_ HG2.out ?_
  rotate_left
  · intro W hW; have hq := HK.out W hW; go_simp; with_reducible rfl
  simp only [Act.put, List.setIfInBounds_toArray, List.set_cons_zero, List.set_cons_succ]
  refine wpAnyH_ready (rs := [1]) (by kernel_rfl) (by simp) ?_
  refine AllReadyH.cons (o := ⟨_, _, _, _, _, _⟩) rfl (fun K hK => ?_) AllReadyH.nil
  go_simp
  refine (HS1.out _).mono ?_
  rintro e w3 ⟨rfl, hg⟩
  have HG3 := Lib.hid (HG2.out.trans hg); clear hg
  refine hK.out _ _ HG3.out (fun _ => ?_)
  clear hK K
  refine wpAnyH_ready (rs := [3]) (by kernel_rfl) (by simp) ?_
  refine AllReadyH.cons (o := ⟨_, _, _, _, _, _⟩) rfl (fun K hK => ?_) AllReadyH.nil
  go_simp
  refine (HS2.out _).mono ?_
  rintro e w4 ⟨rfl, hg⟩
  have HG4 := Lib.hid (HG3.out.trans hg); clear hg
  refine hK.out _ _ HG4.out (fun _ => ?_)
  clear hK K
  refine wpAnyH_ready (rs := [4]) (by kernel_rfl) (by simp) ?_
  refine AllReadyH.cons (o := ⟨_, _, _, _, _, _⟩) rfl (fun K hK => ?_) AllReadyH.nil
  go_simp
  refine (cmp_c s1 s2 _).mono ?_
  rintro e w5 ⟨rfl, rfl⟩
  refine hK.out _ _ HG4.out (fun _ => ?_)
  clear hK K
  generalize cmpI s1 s2 = x at HL ⊢
  refine wpAnyH_ready (rs := [6]) (by kernel_rfl) (by simp) ?_
  refine AllReadyH.cons (o := ⟨_, _, _, _, _, _⟩) rfl (fun K hK => ?_) AllReadyH.nil
  go_simp
  refine (HN1.out _).mono ?_
  rintro e w6 ⟨rfl, hg⟩
  have HG6 := Lib.hid (HG4.out.trans hg); clear hg
  refine hK.out _ _ HG6.out (fun _ => ?_)
  clear hK K
  refine wpAnyH_ready (rs := [8]) (by kernel_rfl) (by simp) ?_
  refine AllReadyH.cons (o := ⟨_, _, _, _, _, _⟩) rfl (fun K hK => ?_) AllReadyH.nil
  go_simp
  refine (HN2.out _).mono ?_
  rintro e w7 ⟨rfl, hg⟩
  have HG7 := Lib.hid (HG6.out.trans hg); clear hg
  refine hK.out _ _ HG7.out (fun _ => ?_)
  clear hK K
  refine wpAnyH_ready (rs := [9]) (by kernel_rfl) (by simp) ?_
  refine AllReadyH.cons (o := ⟨_, _, _, _, _, _⟩) rfl (fun K hK => ?_) AllReadyH.nil
  go_simp
  refine (cmp_c n1 n2 _).mono ?_
  rintro e w8 ⟨rfl, rfl⟩
  refine hK.out _ _ HG7.out (fun _ => ?_)
  clear hK K
  generalize cmpI n1 n2 = y at HL ⊢
  refine wpAnyH_ready (rs := [10]) (by kernel_rfl) (by simp) ?_
  refine AllReadyH.cons (o := ⟨_, _, _, _, _, _⟩) rfl (fun K hK => ?_) AllReadyH.nil
  go_simp
  refine hK.out _ _ (HG7.out.alloc _) (fun _ => ?_)
  clear hK K
  have RX := Lib.hid (show Rd (w7.alloc (.cells #[.int .i64 x, .int .i64 y] 3)) (w7.heap.size + 1) (some ⟨w7.heap.size, 0, none⟩) (([x, y] : List Int).map (Value.int .i64)) from rdI_any w7 [x, y])
  have HG9 := Lib.hid (HG7.out.alloc (.cells #[.int .i64 x, .int .i64 y] 3))
  generalize w7.alloc (.cells #[.int .i64 x, .int .i64 y] 3) = w9 at RX HG9 ⊢
  generalize w7.heap.size = gRX at RX ⊢
  refine wpAnyH_ready (rs := [11]) (by kernel_rfl) (by simp) ?_
  refine AllReadyH.cons (o := ⟨_, _, _, _, _, _⟩) rfl (fun K hK => ?_) AllReadyH.nil
  go_simp
  refine (or_c _ x y _ _ RX.out).mono ?_
  rw [← HL.out]
  rintro e w10 ⟨rfl, rfl⟩
  refine hK.out _ _ HG9.out (fun _ => ?_)
  clear hK K
  refine take_in (i := 12) (oi := ⟨_, _, _, _, _, _⟩) (v := ?_) rfl (by kernel_rfl) (by kernel_rfl) (by kernel_rfl) (fun _ _ _ h => h) (by rfl) ?_ HG9.out ?_
  rotate_left
  · intro W hW; go_simp; with_reducible rfl
  simp only [Act.put, List.setIfInBounds_toArray, List.set_cons_zero, List.set_cons_succ]
  refine wpAnyH_done (by kernel_rfl) ?_ _
  go_wp2
  go_ret
  exact ⟨rfl, HG.out.trans HG9.out⟩
theorem vless_c (u v : Nat × Nat) (hu : u.1 < 64 ∧ u.2 < 64) (hv : v.1 < 64 ∧ v.2 < 64) (w : World) : Calls Try.prog 20 #[vw u.1 u.2, vw v.1 v.2] w fun e w' => e = .returned (.bool (less u v)) ∧ Below w.heap.size w w' := by
  rw [← ordV_neg]
  obtain ⟨a, d⟩ := u
  obtain ⟨b, c⟩ := v
  have HO : Hid (∀ W, Calls Try.prog 30 #[vw a d, vw b c] W fun e w' => e = .returned (.int .i64 (ordV (a, d) (b, c))) ∧ Gr W w') := Lib.hid (fun W => order_g (a, d) (b, c) hu hv W)
  clear hu hv
  generalize ordV (a, d) (b, c) = r at HO ⊢
  show Calls Try.prog 20 #[vw a d, vw b c] w _
  unfold vw
  go_enter Try.func20, Try.ntmps20
  go_wp2_with fail
  have HG := Lib.hid (((Gr.refl w).alloc (.cells #[.int .i64 (a : Int), .int .i64 (d : Int)] 25)).alloc (.cells #[.int .i64 (b : Int), .int .i64 (c : Int)] 25))
  refine (HO.out _).mono ?_
  rintro e w2 ⟨rfl, hg⟩
  have HG2 := Lib.hid (HG.out.trans hg); clear hg
  go_wp2
  go_ret
  exact ⟨rfl, HG2.out.below⟩
end Go.Proofs.Ytofjdfnoibfdfaa
