/- The walk of TagChain. -/
import Derived.Test.YtchkdinmnbjdfaaTgA
import Derived.Test.YtchkdinmnbjdfaaWf
namespace Go.Proofs.Ytchkdinmnbjdfaa.tagChain
open Go.RowKit
open Tg Tgw

set_option maxRecDepth 100000 in
set_option maxHeartbeats 2000000 in
theorem walk (w : World) (a : Int) (wa : (Lit.int .i64 a).wf = true) (d : Int) (wd : (Lit.int .i64 d).wf = true) (b : Int) (wb : (Lit.int .i64 b).wf = true) (c : Int) (wc : (Lit.int .i64 c).wf = true) (f : Int) (wf : (Lit.int .i64 f).wf = true) (g : Int) (wg : (Lit.int .i64 g).wf = true) :
    Calls Try.prog 7 #[tv a d, tv b c, tv f g] w fun e w' => e = .returned (.bool true) ∧ Below w.heap.size w w' := by
  have heq := eq_tag
  have Ha : Hid (I2 (a, d)) := Lib.hid ⟨wf_i64 wa, wf_i64 wd⟩
  have Hb : Hid (I2 (b, c)) := Lib.hid ⟨wf_i64 wb, wf_i64 wc⟩
  have Hc : Hid (I2 (f, g)) := Lib.hid ⟨wf_i64 wf, wf_i64 wg⟩
  clear wa wb wc wd wf wg
  unfold tv
  go_enter Try.func7, Try.ntmps7
  go_wp2_with fail
  have V1 := Lib.hid (show Tx (((w.alloc (.cells #[.int .i64 a, .int .i64 d] 23)).alloc (.cells #[.int .i64 b, .int .i64 c] 23)).alloc (.cells #[.int .i64 f, .int .i64 g] 23)) w.heap.size a d from hbe (hbe (hat _ _ _ rfl)))
  have V2 := Lib.hid (show Tx (((w.alloc (.cells #[.int .i64 a, .int .i64 d] 23)).alloc (.cells #[.int .i64 b, .int .i64 c] 23)).alloc (.cells #[.int .i64 f, .int .i64 g] 23)) (w.heap.size + 1) b c from hbe (hat _ _ _ (by simp)))
  have V3 := Lib.hid (show Tx (((w.alloc (.cells #[.int .i64 a, .int .i64 d] 23)).alloc (.cells #[.int .i64 b, .int .i64 c] 23)).alloc (.cells #[.int .i64 f, .int .i64 g] 23)) (w.heap.size + 1 + 1) f g from hat _ _ _ (by simp))
  have HB := Lib.hid (bal (bal (bal (Below.refl w.heap.size w) (Nat.le_refl _) (.cells #[.int .i64 a, .int .i64 d] 23)) (Nat.le_refl _) (.cells #[.int .i64 b, .int .i64 c] 23)) (Nat.le_refl _) (.cells #[.int .i64 f, .int .i64 g] 23))
  generalize ((w.alloc (.cells #[.int .i64 a, .int .i64 d] 23)).alloc (.cells #[.int .i64 b, .int .i64 c] 23)).alloc (.cells #[.int .i64 f, .int .i64 g] 23) = w1 at V1 V2 V3 HB ⊢
  refine (alive_c _).mono ?_
  rintro e w2 ⟨rfl, hb2⟩
  have V1 := Lib.hid (V1.out.all hb2)
  have V2 := Lib.hid (V2.out.all hb2)
  have V3 := Lib.hid (V3.out.all hb2)
  have HB := Lib.hid (HB.out.trans (hb2.mono HB.out.size)); clear hb2
  have HK : Hid (∀ W', Below w2.heap.size w2 W' → (W'.cell? ⟨w.heap.size, 0, none⟩ = some (.int .i64 a) ∧ W'.cell? ⟨w.heap.size, 1, none⟩ = some (.int .i64 d)) ∧ (W'.cell? ⟨w.heap.size + 1, 0, none⟩ = some (.int .i64 b) ∧ W'.cell? ⟨w.heap.size + 1, 1, none⟩ = some (.int .i64 c)) ∧ (W'.cell? ⟨w.heap.size + 1 + 1, 0, none⟩ = some (.int .i64 f) ∧ W'.cell? ⟨w.heap.size + 1 + 1, 1, none⟩ = some (.int .i64 g))) := Lib.hid (fun W' h => ⟨⟨(V1.out.all h).c0, (V1.out.all h).c1⟩, ⟨(V2.out.all h).c0, (V2.out.all h).c1⟩, (V3.out.all h).c0, (V3.out.all h).c1⟩)
  have HI : Hid (∀ t ∈ [(a, d), (b, c), (f, g)], I2 t) := Lib.hid (by
    intro t ht
    simp only [List.mem_cons, List.not_mem_nil, or_false] at ht
    rcases ht with rfl | rfl | rfl
    · exact Ha.out
    · exact Hb.out
    · exact Hc.out)
  have HMX := Lib.hid (maxT_mem [(a, d), (b, c), (f, g)] (by simp))
  have HIM := Lib.hid (HI.out _ HMX.out.1)
  have HAA : Hid (less (a, d) (a, d) = false) := Lib.hid (by rw [less_not]; omega)
  cases hx : less (a, d) (b, c) with
  | true =>
    have HX := Lib.hid hx
    have HY : Hid (less (b, c) (a, d) = false) := Lib.hid (by rw [less_iff] at hx; rw [less_not]; simp only at hx ⊢; omega)
    cases hz : less (b, c) (f, g) with
    | true =>
      have HZ := Lib.hid hz
      have HAC : Hid (less (a, d) (f, g) = true) := Lib.hid (by rw [less_iff] at hx hz ⊢; simp only at hx hz ⊢; omega)
      clear hx hz
      go_wp2_with fail
      refine wp_region_held_drew (S := fun W' => Below w2.heap.size w2 W') (by kernel_rfl) (Below.refl _ _).drew (fun hHeld => ?_)
      generalize w2.drew = w3 at hHeld ⊢
      have HB2 : Hid (Below w2.heap.size w2 w3) := hHeld
      clear hHeld
      refine take_in (i := 0) (oi := ⟨_, _, _, _, _, _⟩) (v := ?_) rfl (by kernel_rfl) (by kernel_rfl) (by kernel_rfl) (fun _ _ _ h => h) (by rfl) ?_ HB2.out ?_
      rotate_left
      · intro W hW; have hq := HK.out W hW; go_simp; with_reducible rfl
      simp only [Act.put, List.setIfInBounds_toArray, List.set_cons_zero, List.set_cons_succ]
      refine take_in (i := 1) (oi := ⟨_, _, _, _, _, _⟩) (v := ?_) rfl (by kernel_rfl) (by kernel_rfl) (by kernel_rfl) (fun _ _ _ h => h) (by rfl) ?_ HB2.out ?_
      rotate_left
      · intro W hW; have hq := HK.out W hW; go_simp; with_reducible rfl
      simp only [Act.put, List.setIfInBounds_toArray, List.set_cons_zero, List.set_cons_succ]
      refine take_in (i := 3) (oi := ⟨_, _, _, _, _, _⟩) (v := ?_) rfl (by kernel_rfl) (by kernel_rfl) (by kernel_rfl) (fun _ _ _ h => h) (by rfl) ?_ HB2.out ?_
      rotate_left
      · intro W hW; have hq := HK.out W hW; go_simp; with_reducible rfl
      simp only [Act.put, List.setIfInBounds_toArray, List.set_cons_zero, List.set_cons_succ]
      refine take_in (i := 4) (oi := ⟨_, _, _, _, _, _⟩) (v := ?_) rfl (by kernel_rfl) (by kernel_rfl) (by kernel_rfl) (fun _ _ _ h => h) (by rfl) ?_ HB2.out ?_
      rotate_left
      · intro W hW; have hq := HK.out W hW; go_simp; with_reducible rfl
      simp only [Act.put, List.setIfInBounds_toArray, List.set_cons_zero, List.set_cons_succ]
      refine wpAnyH_ready (rs := [2]) (by kernel_rfl) (by simp) ?_
      refine AllReadyH.cons (o := ⟨_, _, _, _, _, _⟩) rfl (fun K hK => ?_) AllReadyH.nil
      go_simp
      refine (less_c (a, d) (b, c) Ha.out Hb.out _).mono ?_
      rw [HX.out]
      rintro e w4 ⟨rfl, hb⟩
      have HB3 := Lib.hid (HB2.out.trans (hb.mono HB2.out.size)); clear hb
      refine hK.out _ _ HB3.out (fun _ => ?_)
      clear hK K
      refine wpAnyH_ready (rs := [5]) (by kernel_rfl) (by simp) ?_
      refine AllReadyH.cons (o := ⟨_, _, _, _, _, _⟩) rfl (fun K hK => ?_) AllReadyH.nil
      go_simp
      refine (less_c (b, c) (a, d) Hb.out Ha.out _).mono ?_
      rw [HY.out]
      rintro e w5 ⟨rfl, hb⟩
      have HB4 := Lib.hid (HB3.out.trans (hb.mono HB3.out.size)); clear hb
      refine hK.out _ _ HB4.out (fun _ => ?_)
      clear hK K
      refine take_in (i := 6) (oi := ⟨_, _, _, _, _, _⟩) (v := ?_) rfl (by kernel_rfl) (by kernel_rfl) (by kernel_rfl) (fun _ _ _ h => h) (by rfl) ?_ HB4.out ?_
      rotate_left
      · intro W hW; have hq := HK.out W hW; go_simp; with_reducible rfl
      simp only [Act.put, List.setIfInBounds_toArray, List.set_cons_zero, List.set_cons_succ]
      refine take_in (i := 7) (oi := ⟨_, _, _, _, _, _⟩) (v := ?_) rfl (by kernel_rfl) (by kernel_rfl) (by kernel_rfl) (fun _ _ _ h => h) (by rfl) ?_ HB4.out ?_
      rotate_left
      · intro W hW; have hq := HK.out W hW; go_simp; with_reducible rfl
      simp only [Act.put, List.setIfInBounds_toArray, List.set_cons_zero, List.set_cons_succ]
      refine skip_in (i := 8) (oi := ⟨_, _, _, _, _, _⟩) rfl (by kernel_rfl) (by kernel_rfl) (by kernel_rfl) (fun _ _ _ h => h) (by rfl) HB4.out ?_
      simp only [Act.put, List.setIfInBounds_toArray, List.set_cons_zero, List.set_cons_succ]
      refine skip_in (i := 9) (oi := ⟨_, _, _, _, _, _⟩) rfl (by kernel_rfl) (by kernel_rfl) (by kernel_rfl) (fun _ _ _ h => h) (by rfl) HB4.out ?_
      simp only [Act.put, List.setIfInBounds_toArray, List.set_cons_zero, List.set_cons_succ]
      refine skip_in (i := 10) (oi := ⟨_, _, _, _, _, _⟩) rfl (by kernel_rfl) (by kernel_rfl) (by kernel_rfl) (fun _ _ _ h => h) (by rfl) HB4.out ?_
      simp only [Act.put, List.setIfInBounds_toArray, List.set_cons_zero, List.set_cons_succ]
      refine take_in (i := 11) (oi := ⟨_, _, _, _, _, _⟩) (v := ?_) rfl (by kernel_rfl) (by kernel_rfl) (by kernel_rfl) (fun _ _ _ h => h) (by rfl) ?_ HB4.out ?_
      rotate_left
      · intro W hW; have hq := HK.out W hW; go_simp; with_reducible rfl
      simp only [Act.put, List.setIfInBounds_toArray, List.set_cons_zero, List.set_cons_succ]
      refine take_in (i := 12) (oi := ⟨_, _, _, _, _, _⟩) (v := ?_) rfl (by kernel_rfl) (by kernel_rfl) (by kernel_rfl) (fun _ _ _ h => h) (by rfl) ?_ HB4.out ?_
      rotate_left
      · intro W hW; have hq := HK.out W hW; go_simp; with_reducible rfl
      simp only [Act.put, List.setIfInBounds_toArray, List.set_cons_zero, List.set_cons_succ]
      refine take_in (i := 13) (oi := ⟨_, _, _, _, _, _⟩) (v := ?_) rfl (by kernel_rfl) (by kernel_rfl) (by kernel_rfl) (fun _ _ _ h => h) (by rfl) ?_ HB4.out ?_
      rotate_left
      · intro W hW; have hq := HK.out W hW; go_simp; with_reducible rfl
      simp only [Act.put, List.setIfInBounds_toArray, List.set_cons_zero, List.set_cons_succ]
      refine take_in (i := 14) (oi := ⟨_, _, _, _, _, _⟩) (v := ?_) rfl (by kernel_rfl) (by kernel_rfl) (by kernel_rfl) (fun _ _ _ h => h) (by rfl) ?_ HB4.out ?_
      rotate_left
      · intro W hW; have hq := HK.out W hW; go_simp; with_reducible rfl
      simp only [Act.put, List.setIfInBounds_toArray, List.set_cons_zero, List.set_cons_succ]
      refine wpAnyH_ready (rs := [15]) (by kernel_rfl) (by simp) ?_
      refine AllReadyH.cons (o := ⟨_, _, _, _, _, _⟩) rfl (fun K hK => ?_) AllReadyH.nil
      go_simp
      refine (less_c (a, d) (a, d) Ha.out Ha.out _).mono ?_
      rw [HAA.out]
      rintro e w6 ⟨rfl, hb⟩
      have HB5 := Lib.hid (HB4.out.trans (hb.mono HB4.out.size)); clear hb
      refine hK.out _ _ HB5.out (fun _ => ?_)
      clear hK K
      refine take_in (i := 16) (oi := ⟨_, _, _, _, _, _⟩) (v := ?_) rfl (by kernel_rfl) (by kernel_rfl) (by kernel_rfl) (fun _ _ _ h => h) (by rfl) ?_ HB5.out ?_
      rotate_left
      · intro W hW; have hq := HK.out W hW; go_simp; with_reducible rfl
      simp only [Act.put, List.setIfInBounds_toArray, List.set_cons_zero, List.set_cons_succ]
      refine take_in (i := 17) (oi := ⟨_, _, _, _, _, _⟩) (v := ?_) rfl (by kernel_rfl) (by kernel_rfl) (by kernel_rfl) (fun _ _ _ h => h) (by rfl) ?_ HB5.out ?_
      rotate_left
      · intro W hW; have hq := HK.out W hW; go_simp; with_reducible rfl
      simp only [Act.put, List.setIfInBounds_toArray, List.set_cons_zero, List.set_cons_succ]
      refine take_in (i := 18) (oi := ⟨_, _, _, _, _, _⟩) (v := ?_) rfl (by kernel_rfl) (by kernel_rfl) (by kernel_rfl) (fun _ _ _ h => h) (by rfl) ?_ HB5.out ?_
      rotate_left
      · intro W hW; have hq := HK.out W hW; go_simp; with_reducible rfl
      simp only [Act.put, List.setIfInBounds_toArray, List.set_cons_zero, List.set_cons_succ]
      refine take_in (i := 19) (oi := ⟨_, _, _, _, _, _⟩) (v := ?_) rfl (by kernel_rfl) (by kernel_rfl) (by kernel_rfl) (fun _ _ _ h => h) (by rfl) ?_ HB5.out ?_
      rotate_left
      · intro W hW; have hq := HK.out W hW; go_simp; with_reducible rfl
      simp only [Act.put, List.setIfInBounds_toArray, List.set_cons_zero, List.set_cons_succ]
      refine wpAnyH_ready (rs := [20]) (by kernel_rfl) (by simp) ?_
      refine AllReadyH.cons (o := ⟨_, _, _, _, _, _⟩) rfl (fun K hK => ?_) AllReadyH.nil
      go_simp
      refine (less_c (a, d) (b, c) Ha.out Hb.out _).mono ?_
      rw [HX.out]
      rintro e w7 ⟨rfl, hb⟩
      have HB6 := Lib.hid (HB5.out.trans (hb.mono HB5.out.size)); clear hb
      refine hK.out _ _ HB6.out (fun _ => ?_)
      clear hK K
      refine take_in (i := 21) (oi := ⟨_, _, _, _, _, _⟩) (v := ?_) rfl (by kernel_rfl) (by kernel_rfl) (by kernel_rfl) (fun _ _ _ h => h) (by rfl) ?_ HB6.out ?_
      rotate_left
      · intro W hW; have hq := HK.out W hW; go_simp; with_reducible rfl
      simp only [Act.put, List.setIfInBounds_toArray, List.set_cons_zero, List.set_cons_succ]
      refine take_in (i := 22) (oi := ⟨_, _, _, _, _, _⟩) (v := ?_) rfl (by kernel_rfl) (by kernel_rfl) (by kernel_rfl) (fun _ _ _ h => h) (by rfl) ?_ HB6.out ?_
      rotate_left
      · intro W hW; have hq := HK.out W hW; go_simp; with_reducible rfl
      simp only [Act.put, List.setIfInBounds_toArray, List.set_cons_zero, List.set_cons_succ]
      refine take_in (i := 23) (oi := ⟨_, _, _, _, _, _⟩) (v := ?_) rfl (by kernel_rfl) (by kernel_rfl) (by kernel_rfl) (fun _ _ _ h => h) (by rfl) ?_ HB6.out ?_
      rotate_left
      · intro W hW; have hq := HK.out W hW; go_simp; with_reducible rfl
      simp only [Act.put, List.setIfInBounds_toArray, List.set_cons_zero, List.set_cons_succ]
      refine wpAnyH_ready (rs := [24]) (by kernel_rfl) (by simp) ?_
      refine AllReadyH.cons (o := ⟨_, _, _, _, _, _⟩) rfl (fun K hK => ?_) AllReadyH.nil
      go_simp
      refine (less_c (b, c) (f, g) Hb.out Hc.out _).mono ?_
      rw [HZ.out]
      rintro e w8 ⟨rfl, hb⟩
      have HB7 := Lib.hid (HB6.out.trans (hb.mono HB6.out.size)); clear hb
      refine hK.out _ _ HB7.out (fun _ => ?_)
      clear hK K
      refine take_in (i := 25) (oi := ⟨_, _, _, _, _, _⟩) (v := ?_) rfl (by kernel_rfl) (by kernel_rfl) (by kernel_rfl) (fun _ _ _ h => h) (by rfl) ?_ HB7.out ?_
      rotate_left
      · intro W hW; have hq := HK.out W hW; go_simp; with_reducible rfl
      simp only [Act.put, List.setIfInBounds_toArray, List.set_cons_zero, List.set_cons_succ]
      refine take_in (i := 26) (oi := ⟨_, _, _, _, _, _⟩) (v := ?_) rfl (by kernel_rfl) (by kernel_rfl) (by kernel_rfl) (fun _ _ _ h => h) (by rfl) ?_ HB7.out ?_
      rotate_left
      · intro W hW; have hq := HK.out W hW; go_simp; with_reducible rfl
      simp only [Act.put, List.setIfInBounds_toArray, List.set_cons_zero, List.set_cons_succ]
      refine take_in (i := 27) (oi := ⟨_, _, _, _, _, _⟩) (v := ?_) rfl (by kernel_rfl) (by kernel_rfl) (by kernel_rfl) (fun _ _ _ h => h) (by rfl) ?_ HB7.out ?_
      rotate_left
      · intro W hW; have hq := HK.out W hW; go_simp; with_reducible rfl
      simp only [Act.put, List.setIfInBounds_toArray, List.set_cons_zero, List.set_cons_succ]
      refine take_in (i := 28) (oi := ⟨_, _, _, _, _, _⟩) (v := ?_) rfl (by kernel_rfl) (by kernel_rfl) (by kernel_rfl) (fun _ _ _ h => h) (by rfl) ?_ HB7.out ?_
      rotate_left
      · intro W hW; have hq := HK.out W hW; go_simp; with_reducible rfl
      simp only [Act.put, List.setIfInBounds_toArray, List.set_cons_zero, List.set_cons_succ]
      refine wpAnyH_ready (rs := [29]) (by kernel_rfl) (by simp) ?_
      refine AllReadyH.cons (o := ⟨_, _, _, _, _, _⟩) rfl (fun K hK => ?_) AllReadyH.nil
      go_simp
      refine (less_c (a, d) (f, g) Ha.out Hc.out _).mono ?_
      rw [HAC.out]
      rintro e w9 ⟨rfl, hb⟩
      have HB8 := Lib.hid (HB7.out.trans (hb.mono HB7.out.size)); clear hb
      refine hK.out _ _ HB8.out (fun _ => ?_)
      clear hK K
      refine take_in (i := 30) (oi := ⟨_, _, _, _, _, _⟩) (v := ?_) rfl (by kernel_rfl) (by kernel_rfl) (by kernel_rfl) (fun _ _ _ h => h) (by rfl) ?_ HB8.out ?_
      rotate_left
      · intro W hW; have hq := HK.out W hW; go_simp; with_reducible rfl
      simp only [Act.put, List.setIfInBounds_toArray, List.set_cons_zero, List.set_cons_succ]
      refine take_in (i := 31) (oi := ⟨_, _, _, _, _, _⟩) (v := ?_) rfl (by kernel_rfl) (by kernel_rfl) (by kernel_rfl) (fun _ _ _ h => h) (by rfl) ?_ HB8.out ?_
      rotate_left
      · intro W hW; have hq := HK.out W hW; go_simp; with_reducible rfl
      simp only [Act.put, List.setIfInBounds_toArray, List.set_cons_zero, List.set_cons_succ]
      refine take_in (i := 32) (oi := ⟨_, _, _, _, _, _⟩) (v := ?_) rfl (by kernel_rfl) (by kernel_rfl) (by kernel_rfl) (fun _ _ _ h => h) (by rfl) ?_ HB8.out ?_
      rotate_left
      · intro W hW; have hq := HK.out W hW; go_simp; with_reducible rfl
      simp only [Act.put, List.setIfInBounds_toArray, List.set_cons_zero, List.set_cons_succ]
      refine wpAnyH_done (by kernel_rfl) ?_ _
      have HBZ := HB8
      have V1 := Lib.hid (V1.out.all HBZ.out); have V2 := Lib.hid (V2.out.all HBZ.out); have V3 := Lib.hid (V3.out.all HBZ.out)
      have HB := Lib.hid (HB.out.trans (HBZ.out.mono HB.out.size))
      generalize w9 = w20 at V1 V2 V3 HB ⊢
      clear HBZ
      have a0 := V1.out.c0; have a1 := V1.out.c1
      have b0 := V2.out.c0; have b1 := V2.out.c1
      have c0 := V3.out.c0; have c1 := V3.out.c1
      go_wp2_with fail
      clear a0 a1 b0 b1 c0 c1
      have RX := Lib.hid (show Rt (w20.alloc (.cells #[.int .i64 a, .int .i64 d, .int .i64 b, .int .i64 c, .int .i64 f, .int .i64 g] 23)) (w20.alloc (.cells #[.int .i64 a, .int .i64 d, .int .i64 b, .int .i64 c, .int .i64 f, .int .i64 g] 23)).heap.size (some ⟨w20.heap.size, 0, none⟩) [(a, d), (b, c), (f, g)] from (rt_new w20 [(a, d), (b, c), (f, g)]).more (by simp))
      have V1 := Lib.hid (show Tx (w20.alloc (.cells #[.int .i64 a, .int .i64 d, .int .i64 b, .int .i64 c, .int .i64 f, .int .i64 g] 23)) w.heap.size a d from hbe V1.out)
      have V2 := Lib.hid (show Tx (w20.alloc (.cells #[.int .i64 a, .int .i64 d, .int .i64 b, .int .i64 c, .int .i64 f, .int .i64 g] 23)) (w.heap.size + 1) b c from hbe V2.out)
      have V3 := Lib.hid (show Tx (w20.alloc (.cells #[.int .i64 a, .int .i64 d, .int .i64 b, .int .i64 c, .int .i64 f, .int .i64 g] 23)) (w.heap.size + 1 + 1) f g from hbe V3.out)
      have HB := Lib.hid (bal HB.out (Nat.le_refl _) (.cells #[.int .i64 a, .int .i64 d, .int .i64 b, .int .i64 c, .int .i64 f, .int .i64 g] 23))
      generalize w20.alloc (.cells #[.int .i64 a, .int .i64 d, .int .i64 b, .int .i64 c, .int .i64 f, .int .i64 g] 23) = w21 at RX V1 V2 V3 HB ⊢
      generalize w20.heap.size = gs at RX ⊢
      refine (max_c _ 3 3 [(a, d), (b, c), (f, g)] rfl (by omega) (Nat.le_refl _) HI.out _ _ RX.out (Nat.le_refl _)).mono ?_
      rintro e w22 ⟨rfl, hb22⟩
      have V1 := Lib.hid (V1.out.all hb22); have V2 := Lib.hid (V2.out.all hb22); have V3 := Lib.hid (V3.out.all hb22)
      have HB := Lib.hid (HB.out.trans (hb22.mono HB.out.size)); clear hb22
      generalize maxT [(a, d), (b, c), (f, g)] = mm at HMX HIM ⊢
      obtain ⟨p, q⟩ := mm
      have L1 := Lib.hid (HMX.out.2 (a, d) (by simp))
      have L2 := Lib.hid (HMX.out.2 (b, c) (by simp))
      have L3 := Lib.hid (HMX.out.2 (f, g) (by simp))
      have a0 : ∀ o, (w22.alloc o).cell? ⟨w.heap.size, 0, none⟩ = some (.int .i64 a) := fun o => (show Tx (w22.alloc o) w.heap.size a d from hbe V1.out).c0
      have a1 : ∀ o, (w22.alloc o).cell? ⟨w.heap.size, 1, none⟩ = some (.int .i64 d) := fun o => (show Tx (w22.alloc o) w.heap.size a d from hbe V1.out).c1
      unfold tv
      go_wp2_with fail
      clear a0 a1
      have V1 := Lib.hid (show Tx (w22.alloc (.cells #[.int .i64 p, .int .i64 q] 23)) w.heap.size a d from hbe V1.out)
      have V2 := Lib.hid (show Tx (w22.alloc (.cells #[.int .i64 p, .int .i64 q] 23)) (w.heap.size + 1) b c from hbe V2.out)
      have V3 := Lib.hid (show Tx (w22.alloc (.cells #[.int .i64 p, .int .i64 q] 23)) (w.heap.size + 1 + 1) f g from hbe V3.out)
      have V4 := Lib.hid (show Tx (w22.alloc (.cells #[.int .i64 p, .int .i64 q] 23)) w22.heap.size p q from hat _ _ _ rfl)
      have HB := Lib.hid (bal HB.out (Nat.le_refl _) (.cells #[.int .i64 p, .int .i64 q] 23))
      generalize w22.alloc (.cells #[.int .i64 p, .int .i64 q] 23) = w23 at V1 V2 V3 V4 HB ⊢
      generalize w22.heap.size = gm at V4 ⊢
      refine (less_c (p, q) (a, d) HIM.out Ha.out _).mono ?_
      rw [L1.out]
      rintro e w24 ⟨rfl, hb⟩
      have V1 := Lib.hid (V1.out.all hb); have V2 := Lib.hid (V2.out.all hb); have V3 := Lib.hid (V3.out.all hb); have V4 := Lib.hid (V4.out.all hb)
      have HB := Lib.hid (HB.out.trans (hb.mono HB.out.size)); clear hb
      have b0 := V2.out.c0; have b1 := V2.out.c1; have m0 := V4.out.c0; have m1 := V4.out.c1
      go_wp2_with fail
      clear b0 b1 m0 m1
      refine (less_c (p, q) (b, c) HIM.out Hb.out _).mono ?_
      rw [L2.out]
      rintro e w25 ⟨rfl, hb⟩
      have V1 := Lib.hid (V1.out.all hb); have V2 := Lib.hid (V2.out.all hb); have V3 := Lib.hid (V3.out.all hb); have V4 := Lib.hid (V4.out.all hb)
      have HB := Lib.hid (HB.out.trans (hb.mono HB.out.size)); clear hb
      have b0 := V3.out.c0; have b1 := V3.out.c1; have m0 := V4.out.c0; have m1 := V4.out.c1
      go_wp2_with fail
      clear b0 b1 m0 m1
      refine (less_c (p, q) (f, g) HIM.out Hc.out _).mono ?_
      rw [L3.out]
      rintro e w26 ⟨rfl, hb⟩
      have V1 := Lib.hid (V1.out.all hb); have V2 := Lib.hid (V2.out.all hb); have V3 := Lib.hid (V3.out.all hb); have V4 := Lib.hid (V4.out.all hb)
      have HB := Lib.hid (HB.out.trans (hb.mono HB.out.size)); clear hb
      have a0 := V1.out.c0; have a1 := V1.out.c1; have b0 := V2.out.c0; have b1 := V2.out.c1; have c0 := V3.out.c0; have c1 := V3.out.c1; have m0 := V4.out.c0; have m1 := V4.out.c1
      have HM := Lib.hid HMX.out.1
      clear HMX HIM HI L1 L2 L3 HX HY HAA HK Ha Hb Hc V1 V2 V3 V4
      by_cases e1 : (p == a && q == d) = true
      · go_wp2
        go_ret
        exact ⟨rfl, HB.out⟩
      by_cases e2 : (p == b && q == c) = true
      · have e1 := Bool.eq_false_iff.2 e1
        go_wp2
        go_ret
        exact ⟨rfl, HB.out⟩
      have e3 : (p == f && q == g) = true := by
        have h := HM.out
        simp only [List.mem_cons, List.not_mem_nil, or_false, Prod.mk.injEq] at h
        simp only [Bool.and_eq_true, beq_iff_eq] at e1 e2 ⊢
        rcases h with h | h | h
        · exact absurd h e1
        · exact absurd h e2
        · exact h
      have e1 := Bool.eq_false_iff.2 e1
      have e2 := Bool.eq_false_iff.2 e2
      go_wp2
      go_ret
      exact ⟨rfl, HB.out⟩
    | false =>
      have HZ := Lib.hid hz
      clear hx hz
      go_wp2_with fail
      refine wp_region_held_drew (S := fun W' => Below w2.heap.size w2 W') (by kernel_rfl) (Below.refl _ _).drew (fun hHeld => ?_)
      generalize w2.drew = w3 at hHeld ⊢
      have HB2 : Hid (Below w2.heap.size w2 w3) := hHeld
      clear hHeld
      refine take_in (i := 0) (oi := ⟨_, _, _, _, _, _⟩) (v := ?_) rfl (by kernel_rfl) (by kernel_rfl) (by kernel_rfl) (fun _ _ _ h => h) (by rfl) ?_ HB2.out ?_
      rotate_left
      · intro W hW; have hq := HK.out W hW; go_simp; with_reducible rfl
      simp only [Act.put, List.setIfInBounds_toArray, List.set_cons_zero, List.set_cons_succ]
      refine take_in (i := 1) (oi := ⟨_, _, _, _, _, _⟩) (v := ?_) rfl (by kernel_rfl) (by kernel_rfl) (by kernel_rfl) (fun _ _ _ h => h) (by rfl) ?_ HB2.out ?_
      rotate_left
      · intro W hW; have hq := HK.out W hW; go_simp; with_reducible rfl
      simp only [Act.put, List.setIfInBounds_toArray, List.set_cons_zero, List.set_cons_succ]
      refine take_in (i := 3) (oi := ⟨_, _, _, _, _, _⟩) (v := ?_) rfl (by kernel_rfl) (by kernel_rfl) (by kernel_rfl) (fun _ _ _ h => h) (by rfl) ?_ HB2.out ?_
      rotate_left
      · intro W hW; have hq := HK.out W hW; go_simp; with_reducible rfl
      simp only [Act.put, List.setIfInBounds_toArray, List.set_cons_zero, List.set_cons_succ]
      refine take_in (i := 4) (oi := ⟨_, _, _, _, _, _⟩) (v := ?_) rfl (by kernel_rfl) (by kernel_rfl) (by kernel_rfl) (fun _ _ _ h => h) (by rfl) ?_ HB2.out ?_
      rotate_left
      · intro W hW; have hq := HK.out W hW; go_simp; with_reducible rfl
      simp only [Act.put, List.setIfInBounds_toArray, List.set_cons_zero, List.set_cons_succ]
      refine wpAnyH_ready (rs := [2]) (by kernel_rfl) (by simp) ?_
      refine AllReadyH.cons (o := ⟨_, _, _, _, _, _⟩) rfl (fun K hK => ?_) AllReadyH.nil
      go_simp
      refine (less_c (a, d) (b, c) Ha.out Hb.out _).mono ?_
      rw [HX.out]
      rintro e w4 ⟨rfl, hb⟩
      have HB3 := Lib.hid (HB2.out.trans (hb.mono HB2.out.size)); clear hb
      refine hK.out _ _ HB3.out (fun _ => ?_)
      clear hK K
      refine wpAnyH_ready (rs := [5]) (by kernel_rfl) (by simp) ?_
      refine AllReadyH.cons (o := ⟨_, _, _, _, _, _⟩) rfl (fun K hK => ?_) AllReadyH.nil
      go_simp
      refine (less_c (b, c) (a, d) Hb.out Ha.out _).mono ?_
      rw [HY.out]
      rintro e w5 ⟨rfl, hb⟩
      have HB4 := Lib.hid (HB3.out.trans (hb.mono HB3.out.size)); clear hb
      refine hK.out _ _ HB4.out (fun _ => ?_)
      clear hK K
      refine take_in (i := 6) (oi := ⟨_, _, _, _, _, _⟩) (v := ?_) rfl (by kernel_rfl) (by kernel_rfl) (by kernel_rfl) (fun _ _ _ h => h) (by rfl) ?_ HB4.out ?_
      rotate_left
      · intro W hW; have hq := HK.out W hW; go_simp; with_reducible rfl
      simp only [Act.put, List.setIfInBounds_toArray, List.set_cons_zero, List.set_cons_succ]
      refine take_in (i := 7) (oi := ⟨_, _, _, _, _, _⟩) (v := ?_) rfl (by kernel_rfl) (by kernel_rfl) (by kernel_rfl) (fun _ _ _ h => h) (by rfl) ?_ HB4.out ?_
      rotate_left
      · intro W hW; have hq := HK.out W hW; go_simp; with_reducible rfl
      simp only [Act.put, List.setIfInBounds_toArray, List.set_cons_zero, List.set_cons_succ]
      refine skip_in (i := 8) (oi := ⟨_, _, _, _, _, _⟩) rfl (by kernel_rfl) (by kernel_rfl) (by kernel_rfl) (fun _ _ _ h => h) (by rfl) HB4.out ?_
      simp only [Act.put, List.setIfInBounds_toArray, List.set_cons_zero, List.set_cons_succ]
      refine skip_in (i := 9) (oi := ⟨_, _, _, _, _, _⟩) rfl (by kernel_rfl) (by kernel_rfl) (by kernel_rfl) (fun _ _ _ h => h) (by rfl) HB4.out ?_
      simp only [Act.put, List.setIfInBounds_toArray, List.set_cons_zero, List.set_cons_succ]
      refine skip_in (i := 10) (oi := ⟨_, _, _, _, _, _⟩) rfl (by kernel_rfl) (by kernel_rfl) (by kernel_rfl) (fun _ _ _ h => h) (by rfl) HB4.out ?_
      simp only [Act.put, List.setIfInBounds_toArray, List.set_cons_zero, List.set_cons_succ]
      refine take_in (i := 11) (oi := ⟨_, _, _, _, _, _⟩) (v := ?_) rfl (by kernel_rfl) (by kernel_rfl) (by kernel_rfl) (fun _ _ _ h => h) (by rfl) ?_ HB4.out ?_
      rotate_left
      · intro W hW; have hq := HK.out W hW; go_simp; with_reducible rfl
      simp only [Act.put, List.setIfInBounds_toArray, List.set_cons_zero, List.set_cons_succ]
      refine take_in (i := 12) (oi := ⟨_, _, _, _, _, _⟩) (v := ?_) rfl (by kernel_rfl) (by kernel_rfl) (by kernel_rfl) (fun _ _ _ h => h) (by rfl) ?_ HB4.out ?_
      rotate_left
      · intro W hW; have hq := HK.out W hW; go_simp; with_reducible rfl
      simp only [Act.put, List.setIfInBounds_toArray, List.set_cons_zero, List.set_cons_succ]
      refine take_in (i := 13) (oi := ⟨_, _, _, _, _, _⟩) (v := ?_) rfl (by kernel_rfl) (by kernel_rfl) (by kernel_rfl) (fun _ _ _ h => h) (by rfl) ?_ HB4.out ?_
      rotate_left
      · intro W hW; have hq := HK.out W hW; go_simp; with_reducible rfl
      simp only [Act.put, List.setIfInBounds_toArray, List.set_cons_zero, List.set_cons_succ]
      refine take_in (i := 14) (oi := ⟨_, _, _, _, _, _⟩) (v := ?_) rfl (by kernel_rfl) (by kernel_rfl) (by kernel_rfl) (fun _ _ _ h => h) (by rfl) ?_ HB4.out ?_
      rotate_left
      · intro W hW; have hq := HK.out W hW; go_simp; with_reducible rfl
      simp only [Act.put, List.setIfInBounds_toArray, List.set_cons_zero, List.set_cons_succ]
      refine wpAnyH_ready (rs := [15]) (by kernel_rfl) (by simp) ?_
      refine AllReadyH.cons (o := ⟨_, _, _, _, _, _⟩) rfl (fun K hK => ?_) AllReadyH.nil
      go_simp
      refine (less_c (a, d) (a, d) Ha.out Ha.out _).mono ?_
      rw [HAA.out]
      rintro e w6 ⟨rfl, hb⟩
      have HB5 := Lib.hid (HB4.out.trans (hb.mono HB4.out.size)); clear hb
      refine hK.out _ _ HB5.out (fun _ => ?_)
      clear hK K
      refine take_in (i := 16) (oi := ⟨_, _, _, _, _, _⟩) (v := ?_) rfl (by kernel_rfl) (by kernel_rfl) (by kernel_rfl) (fun _ _ _ h => h) (by rfl) ?_ HB5.out ?_
      rotate_left
      · intro W hW; have hq := HK.out W hW; go_simp; with_reducible rfl
      simp only [Act.put, List.setIfInBounds_toArray, List.set_cons_zero, List.set_cons_succ]
      refine take_in (i := 17) (oi := ⟨_, _, _, _, _, _⟩) (v := ?_) rfl (by kernel_rfl) (by kernel_rfl) (by kernel_rfl) (fun _ _ _ h => h) (by rfl) ?_ HB5.out ?_
      rotate_left
      · intro W hW; have hq := HK.out W hW; go_simp; with_reducible rfl
      simp only [Act.put, List.setIfInBounds_toArray, List.set_cons_zero, List.set_cons_succ]
      refine take_in (i := 18) (oi := ⟨_, _, _, _, _, _⟩) (v := ?_) rfl (by kernel_rfl) (by kernel_rfl) (by kernel_rfl) (fun _ _ _ h => h) (by rfl) ?_ HB5.out ?_
      rotate_left
      · intro W hW; have hq := HK.out W hW; go_simp; with_reducible rfl
      simp only [Act.put, List.setIfInBounds_toArray, List.set_cons_zero, List.set_cons_succ]
      refine take_in (i := 19) (oi := ⟨_, _, _, _, _, _⟩) (v := ?_) rfl (by kernel_rfl) (by kernel_rfl) (by kernel_rfl) (fun _ _ _ h => h) (by rfl) ?_ HB5.out ?_
      rotate_left
      · intro W hW; have hq := HK.out W hW; go_simp; with_reducible rfl
      simp only [Act.put, List.setIfInBounds_toArray, List.set_cons_zero, List.set_cons_succ]
      refine wpAnyH_ready (rs := [20]) (by kernel_rfl) (by simp) ?_
      refine AllReadyH.cons (o := ⟨_, _, _, _, _, _⟩) rfl (fun K hK => ?_) AllReadyH.nil
      go_simp
      refine (less_c (a, d) (b, c) Ha.out Hb.out _).mono ?_
      rw [HX.out]
      rintro e w7 ⟨rfl, hb⟩
      have HB6 := Lib.hid (HB5.out.trans (hb.mono HB5.out.size)); clear hb
      refine hK.out _ _ HB6.out (fun _ => ?_)
      clear hK K
      refine take_in (i := 21) (oi := ⟨_, _, _, _, _, _⟩) (v := ?_) rfl (by kernel_rfl) (by kernel_rfl) (by kernel_rfl) (fun _ _ _ h => h) (by rfl) ?_ HB6.out ?_
      rotate_left
      · intro W hW; have hq := HK.out W hW; go_simp; with_reducible rfl
      simp only [Act.put, List.setIfInBounds_toArray, List.set_cons_zero, List.set_cons_succ]
      refine take_in (i := 22) (oi := ⟨_, _, _, _, _, _⟩) (v := ?_) rfl (by kernel_rfl) (by kernel_rfl) (by kernel_rfl) (fun _ _ _ h => h) (by rfl) ?_ HB6.out ?_
      rotate_left
      · intro W hW; have hq := HK.out W hW; go_simp; with_reducible rfl
      simp only [Act.put, List.setIfInBounds_toArray, List.set_cons_zero, List.set_cons_succ]
      refine take_in (i := 23) (oi := ⟨_, _, _, _, _, _⟩) (v := ?_) rfl (by kernel_rfl) (by kernel_rfl) (by kernel_rfl) (fun _ _ _ h => h) (by rfl) ?_ HB6.out ?_
      rotate_left
      · intro W hW; have hq := HK.out W hW; go_simp; with_reducible rfl
      simp only [Act.put, List.setIfInBounds_toArray, List.set_cons_zero, List.set_cons_succ]
      refine wpAnyH_ready (rs := [24]) (by kernel_rfl) (by simp) ?_
      refine AllReadyH.cons (o := ⟨_, _, _, _, _, _⟩) rfl (fun K hK => ?_) AllReadyH.nil
      go_simp
      refine (less_c (b, c) (f, g) Hb.out Hc.out _).mono ?_
      rw [HZ.out]
      rintro e w8 ⟨rfl, hb⟩
      have HB7 := Lib.hid (HB6.out.trans (hb.mono HB6.out.size)); clear hb
      refine hK.out _ _ HB7.out (fun _ => ?_)
      clear hK K
      refine take_in (i := 25) (oi := ⟨_, _, _, _, _, _⟩) (v := ?_) rfl (by kernel_rfl) (by kernel_rfl) (by kernel_rfl) (fun _ _ _ h => h) (by rfl) ?_ HB7.out ?_
      rotate_left
      · intro W hW; have hq := HK.out W hW; go_simp; with_reducible rfl
      simp only [Act.put, List.setIfInBounds_toArray, List.set_cons_zero, List.set_cons_succ]
      refine take_in (i := 26) (oi := ⟨_, _, _, _, _, _⟩) (v := ?_) rfl (by kernel_rfl) (by kernel_rfl) (by kernel_rfl) (fun _ _ _ h => h) (by rfl) ?_ HB7.out ?_
      rotate_left
      · intro W hW; have hq := HK.out W hW; go_simp; with_reducible rfl
      simp only [Act.put, List.setIfInBounds_toArray, List.set_cons_zero, List.set_cons_succ]
      refine skip_in (i := 27) (oi := ⟨_, _, _, _, _, _⟩) rfl (by kernel_rfl) (by kernel_rfl) (by kernel_rfl) (fun _ _ _ h => h) (by rfl) HB7.out ?_
      simp only [Act.put, List.setIfInBounds_toArray, List.set_cons_zero, List.set_cons_succ]
      refine skip_in (i := 28) (oi := ⟨_, _, _, _, _, _⟩) rfl (by kernel_rfl) (by kernel_rfl) (by kernel_rfl) (fun _ _ _ h => h) (by rfl) HB7.out ?_
      simp only [Act.put, List.setIfInBounds_toArray, List.set_cons_zero, List.set_cons_succ]
      refine skip_in (i := 29) (oi := ⟨_, _, _, _, _, _⟩) rfl (by kernel_rfl) (by kernel_rfl) (by kernel_rfl) (fun _ _ _ h => h) (by rfl) HB7.out ?_
      simp only [Act.put, List.setIfInBounds_toArray, List.set_cons_zero, List.set_cons_succ]
      refine skip_in (i := 30) (oi := ⟨_, _, _, _, _, _⟩) rfl (by kernel_rfl) (by kernel_rfl) (by kernel_rfl) (fun _ _ _ h => h) (by rfl) HB7.out ?_
      simp only [Act.put, List.setIfInBounds_toArray, List.set_cons_zero, List.set_cons_succ]
      refine take_in (i := 31) (oi := ⟨_, _, _, _, _, _⟩) (v := ?_) rfl (by kernel_rfl) (by kernel_rfl) (by kernel_rfl) (fun _ _ _ h => h) (by rfl) ?_ HB7.out ?_
      rotate_left
      · intro W hW; have hq := HK.out W hW; go_simp; with_reducible rfl
      simp only [Act.put, List.setIfInBounds_toArray, List.set_cons_zero, List.set_cons_succ]
      refine take_in (i := 32) (oi := ⟨_, _, _, _, _, _⟩) (v := ?_) rfl (by kernel_rfl) (by kernel_rfl) (by kernel_rfl) (fun _ _ _ h => h) (by rfl) ?_ HB7.out ?_
      rotate_left
      · intro W hW; have hq := HK.out W hW; go_simp; with_reducible rfl
      simp only [Act.put, List.setIfInBounds_toArray, List.set_cons_zero, List.set_cons_succ]
      refine wpAnyH_done (by kernel_rfl) ?_ _
      have HBZ := HB7
      have V1 := Lib.hid (V1.out.all HBZ.out); have V2 := Lib.hid (V2.out.all HBZ.out); have V3 := Lib.hid (V3.out.all HBZ.out)
      have HB := Lib.hid (HB.out.trans (HBZ.out.mono HB.out.size))
      generalize w8 = w20 at V1 V2 V3 HB ⊢
      clear HBZ
      have a0 := V1.out.c0; have a1 := V1.out.c1
      have b0 := V2.out.c0; have b1 := V2.out.c1
      have c0 := V3.out.c0; have c1 := V3.out.c1
      go_wp2_with fail
      clear a0 a1 b0 b1 c0 c1
      have RX := Lib.hid (show Rt (w20.alloc (.cells #[.int .i64 a, .int .i64 d, .int .i64 b, .int .i64 c, .int .i64 f, .int .i64 g] 23)) (w20.alloc (.cells #[.int .i64 a, .int .i64 d, .int .i64 b, .int .i64 c, .int .i64 f, .int .i64 g] 23)).heap.size (some ⟨w20.heap.size, 0, none⟩) [(a, d), (b, c), (f, g)] from (rt_new w20 [(a, d), (b, c), (f, g)]).more (by simp))
      have V1 := Lib.hid (show Tx (w20.alloc (.cells #[.int .i64 a, .int .i64 d, .int .i64 b, .int .i64 c, .int .i64 f, .int .i64 g] 23)) w.heap.size a d from hbe V1.out)
      have V2 := Lib.hid (show Tx (w20.alloc (.cells #[.int .i64 a, .int .i64 d, .int .i64 b, .int .i64 c, .int .i64 f, .int .i64 g] 23)) (w.heap.size + 1) b c from hbe V2.out)
      have V3 := Lib.hid (show Tx (w20.alloc (.cells #[.int .i64 a, .int .i64 d, .int .i64 b, .int .i64 c, .int .i64 f, .int .i64 g] 23)) (w.heap.size + 1 + 1) f g from hbe V3.out)
      have HB := Lib.hid (bal HB.out (Nat.le_refl _) (.cells #[.int .i64 a, .int .i64 d, .int .i64 b, .int .i64 c, .int .i64 f, .int .i64 g] 23))
      generalize w20.alloc (.cells #[.int .i64 a, .int .i64 d, .int .i64 b, .int .i64 c, .int .i64 f, .int .i64 g] 23) = w21 at RX V1 V2 V3 HB ⊢
      generalize w20.heap.size = gs at RX ⊢
      refine (max_c _ 3 3 [(a, d), (b, c), (f, g)] rfl (by omega) (Nat.le_refl _) HI.out _ _ RX.out (Nat.le_refl _)).mono ?_
      rintro e w22 ⟨rfl, hb22⟩
      have V1 := Lib.hid (V1.out.all hb22); have V2 := Lib.hid (V2.out.all hb22); have V3 := Lib.hid (V3.out.all hb22)
      have HB := Lib.hid (HB.out.trans (hb22.mono HB.out.size)); clear hb22
      generalize maxT [(a, d), (b, c), (f, g)] = mm at HMX HIM ⊢
      obtain ⟨p, q⟩ := mm
      have L1 := Lib.hid (HMX.out.2 (a, d) (by simp))
      have L2 := Lib.hid (HMX.out.2 (b, c) (by simp))
      have L3 := Lib.hid (HMX.out.2 (f, g) (by simp))
      have a0 : ∀ o, (w22.alloc o).cell? ⟨w.heap.size, 0, none⟩ = some (.int .i64 a) := fun o => (show Tx (w22.alloc o) w.heap.size a d from hbe V1.out).c0
      have a1 : ∀ o, (w22.alloc o).cell? ⟨w.heap.size, 1, none⟩ = some (.int .i64 d) := fun o => (show Tx (w22.alloc o) w.heap.size a d from hbe V1.out).c1
      unfold tv
      go_wp2_with fail
      clear a0 a1
      have V1 := Lib.hid (show Tx (w22.alloc (.cells #[.int .i64 p, .int .i64 q] 23)) w.heap.size a d from hbe V1.out)
      have V2 := Lib.hid (show Tx (w22.alloc (.cells #[.int .i64 p, .int .i64 q] 23)) (w.heap.size + 1) b c from hbe V2.out)
      have V3 := Lib.hid (show Tx (w22.alloc (.cells #[.int .i64 p, .int .i64 q] 23)) (w.heap.size + 1 + 1) f g from hbe V3.out)
      have V4 := Lib.hid (show Tx (w22.alloc (.cells #[.int .i64 p, .int .i64 q] 23)) w22.heap.size p q from hat _ _ _ rfl)
      have HB := Lib.hid (bal HB.out (Nat.le_refl _) (.cells #[.int .i64 p, .int .i64 q] 23))
      generalize w22.alloc (.cells #[.int .i64 p, .int .i64 q] 23) = w23 at V1 V2 V3 V4 HB ⊢
      generalize w22.heap.size = gm at V4 ⊢
      refine (less_c (p, q) (a, d) HIM.out Ha.out _).mono ?_
      rw [L1.out]
      rintro e w24 ⟨rfl, hb⟩
      have V1 := Lib.hid (V1.out.all hb); have V2 := Lib.hid (V2.out.all hb); have V3 := Lib.hid (V3.out.all hb); have V4 := Lib.hid (V4.out.all hb)
      have HB := Lib.hid (HB.out.trans (hb.mono HB.out.size)); clear hb
      have b0 := V2.out.c0; have b1 := V2.out.c1; have m0 := V4.out.c0; have m1 := V4.out.c1
      go_wp2_with fail
      clear b0 b1 m0 m1
      refine (less_c (p, q) (b, c) HIM.out Hb.out _).mono ?_
      rw [L2.out]
      rintro e w25 ⟨rfl, hb⟩
      have V1 := Lib.hid (V1.out.all hb); have V2 := Lib.hid (V2.out.all hb); have V3 := Lib.hid (V3.out.all hb); have V4 := Lib.hid (V4.out.all hb)
      have HB := Lib.hid (HB.out.trans (hb.mono HB.out.size)); clear hb
      have b0 := V3.out.c0; have b1 := V3.out.c1; have m0 := V4.out.c0; have m1 := V4.out.c1
      go_wp2_with fail
      clear b0 b1 m0 m1
      refine (less_c (p, q) (f, g) HIM.out Hc.out _).mono ?_
      rw [L3.out]
      rintro e w26 ⟨rfl, hb⟩
      have V1 := Lib.hid (V1.out.all hb); have V2 := Lib.hid (V2.out.all hb); have V3 := Lib.hid (V3.out.all hb); have V4 := Lib.hid (V4.out.all hb)
      have HB := Lib.hid (HB.out.trans (hb.mono HB.out.size)); clear hb
      have a0 := V1.out.c0; have a1 := V1.out.c1; have b0 := V2.out.c0; have b1 := V2.out.c1; have c0 := V3.out.c0; have c1 := V3.out.c1; have m0 := V4.out.c0; have m1 := V4.out.c1
      have HM := Lib.hid HMX.out.1
      clear HMX HIM HI L1 L2 L3 HX HY HAA HK Ha Hb Hc V1 V2 V3 V4
      by_cases e1 : (p == a && q == d) = true
      · go_wp2
        go_ret
        exact ⟨rfl, HB.out⟩
      by_cases e2 : (p == b && q == c) = true
      · have e1 := Bool.eq_false_iff.2 e1
        go_wp2
        go_ret
        exact ⟨rfl, HB.out⟩
      have e3 : (p == f && q == g) = true := by
        have h := HM.out
        simp only [List.mem_cons, List.not_mem_nil, or_false, Prod.mk.injEq] at h
        simp only [Bool.and_eq_true, beq_iff_eq] at e1 e2 ⊢
        rcases h with h | h | h
        · exact absurd h e1
        · exact absurd h e2
        · exact h
      have e1 := Bool.eq_false_iff.2 e1
      have e2 := Bool.eq_false_iff.2 e2
      go_wp2
      go_ret
      exact ⟨rfl, HB.out⟩
  | false =>
    have HX := Lib.hid hx
    by_cases he : (a == b && d == c) = true
    · have HY : Hid (less (b, c) (a, d) = false) := Lib.hid (by
        simp only [Bool.and_eq_true, beq_iff_eq] at he
        rw [less_not]; simp only; omega)
      clear hx
      go_wp2_with fail
      refine wp_region_held_drew (S := fun W' => Below w2.heap.size w2 W') (by kernel_rfl) (Below.refl _ _).drew (fun hHeld => ?_)
      generalize w2.drew = w3 at hHeld ⊢
      have HB2 : Hid (Below w2.heap.size w2 w3) := hHeld
      clear hHeld
      refine take_in (i := 0) (oi := ⟨_, _, _, _, _, _⟩) (v := ?_) rfl (by kernel_rfl) (by kernel_rfl) (by kernel_rfl) (fun _ _ _ h => h) (by rfl) ?_ HB2.out ?_
      rotate_left
      · intro W hW; have hq := HK.out W hW; go_simp; with_reducible rfl
      simp only [Act.put, List.setIfInBounds_toArray, List.set_cons_zero, List.set_cons_succ]
      refine take_in (i := 1) (oi := ⟨_, _, _, _, _, _⟩) (v := ?_) rfl (by kernel_rfl) (by kernel_rfl) (by kernel_rfl) (fun _ _ _ h => h) (by rfl) ?_ HB2.out ?_
      rotate_left
      · intro W hW; have hq := HK.out W hW; go_simp; with_reducible rfl
      simp only [Act.put, List.setIfInBounds_toArray, List.set_cons_zero, List.set_cons_succ]
      refine take_in (i := 3) (oi := ⟨_, _, _, _, _, _⟩) (v := ?_) rfl (by kernel_rfl) (by kernel_rfl) (by kernel_rfl) (fun _ _ _ h => h) (by rfl) ?_ HB2.out ?_
      rotate_left
      · intro W hW; have hq := HK.out W hW; go_simp; with_reducible rfl
      simp only [Act.put, List.setIfInBounds_toArray, List.set_cons_zero, List.set_cons_succ]
      refine take_in (i := 4) (oi := ⟨_, _, _, _, _, _⟩) (v := ?_) rfl (by kernel_rfl) (by kernel_rfl) (by kernel_rfl) (fun _ _ _ h => h) (by rfl) ?_ HB2.out ?_
      rotate_left
      · intro W hW; have hq := HK.out W hW; go_simp; with_reducible rfl
      simp only [Act.put, List.setIfInBounds_toArray, List.set_cons_zero, List.set_cons_succ]
      refine wpAnyH_ready (rs := [2]) (by kernel_rfl) (by simp) ?_
      refine AllReadyH.cons (o := ⟨_, _, _, _, _, _⟩) rfl (fun K hK => ?_) AllReadyH.nil
      go_simp
      refine (less_c (a, d) (b, c) Ha.out Hb.out _).mono ?_
      rw [HX.out]
      rintro e w4 ⟨rfl, hb⟩
      have HB3 := Lib.hid (HB2.out.trans (hb.mono HB2.out.size)); clear hb
      refine hK.out _ _ HB3.out (fun _ => ?_)
      clear hK K
      refine wpAnyH_ready (rs := [5]) (by kernel_rfl) (by simp) ?_
      refine AllReadyH.cons (o := ⟨_, _, _, _, _, _⟩) rfl (fun K hK => ?_) AllReadyH.nil
      go_simp
      refine (less_c (b, c) (a, d) Hb.out Ha.out _).mono ?_
      rw [HY.out]
      rintro e w5 ⟨rfl, hb⟩
      have HB4 := Lib.hid (HB3.out.trans (hb.mono HB3.out.size)); clear hb
      refine hK.out _ _ HB4.out (fun _ => ?_)
      clear hK K
      refine take_in (i := 6) (oi := ⟨_, _, _, _, _, _⟩) (v := ?_) rfl (by kernel_rfl) (by kernel_rfl) (by kernel_rfl) (fun _ _ _ h => h) (by rfl) ?_ HB4.out ?_
      rotate_left
      · intro W hW; have hq := HK.out W hW; go_simp; with_reducible rfl
      simp only [Act.put, List.setIfInBounds_toArray, List.set_cons_zero, List.set_cons_succ]
      refine take_in (i := 7) (oi := ⟨_, _, _, _, _, _⟩) (v := ?_) rfl (by kernel_rfl) (by kernel_rfl) (by kernel_rfl) (fun _ _ _ h => h) (by rfl) ?_ HB4.out ?_
      rotate_left
      · intro W hW; have hq := HK.out W hW; go_simp; with_reducible rfl
      simp only [Act.put, List.setIfInBounds_toArray, List.set_cons_zero, List.set_cons_succ]
      refine take_in (i := 8) (oi := ⟨_, _, _, _, _, _⟩) (v := ?_) rfl (by kernel_rfl) (by kernel_rfl) (by kernel_rfl) (fun _ _ _ h => h) (by rfl) ?_ HB4.out ?_
      rotate_left
      · intro W hW; have hq := HK.out W hW; go_simp; with_reducible rfl
      simp only [Act.put, List.setIfInBounds_toArray, List.set_cons_zero, List.set_cons_succ]
      refine take_in (i := 9) (oi := ⟨_, _, _, _, _, _⟩) (v := ?_) rfl (by kernel_rfl) (by kernel_rfl) (by kernel_rfl) (fun _ _ _ h => h) (by rfl) ?_ HB4.out ?_
      rotate_left
      · intro W hW; have hq := HK.out W hW; go_simp; with_reducible rfl
      simp only [Act.put, List.setIfInBounds_toArray, List.set_cons_zero, List.set_cons_succ]
      refine take_in (i := 10) (oi := ⟨_, _, _, _, _, _⟩) (v := ?_) rfl (by kernel_rfl) (by kernel_rfl) (by kernel_rfl) (fun _ _ _ h => h) (by rfl) ?_ HB4.out ?_
      rotate_left
      · intro W hW; have hq := HK.out W hW; go_simp; with_reducible rfl
      simp only [Act.put, List.setIfInBounds_toArray, List.set_cons_zero, List.set_cons_succ]
      refine take_in (i := 11) (oi := ⟨_, _, _, _, _, _⟩) (v := ?_) rfl (by kernel_rfl) (by kernel_rfl) (by kernel_rfl) (fun _ _ _ h => h) (by rfl) ?_ HB4.out ?_
      rotate_left
      · intro W hW; have hq := HK.out W hW; go_simp; with_reducible rfl
      simp only [Act.put, List.setIfInBounds_toArray, List.set_cons_zero, List.set_cons_succ]
      refine take_in (i := 12) (oi := ⟨_, _, _, _, _, _⟩) (v := ?_) rfl (by kernel_rfl) (by kernel_rfl) (by kernel_rfl) (fun _ _ _ h => h) (by rfl) ?_ HB4.out ?_
      rotate_left
      · intro W hW; have hq := HK.out W hW; go_simp; with_reducible rfl
      simp only [Act.put, List.setIfInBounds_toArray, List.set_cons_zero, List.set_cons_succ]
      refine take_in (i := 13) (oi := ⟨_, _, _, _, _, _⟩) (v := ?_) rfl (by kernel_rfl) (by kernel_rfl) (by kernel_rfl) (fun _ _ _ h => h) (by rfl) ?_ HB4.out ?_
      rotate_left
      · intro W hW; have hq := HK.out W hW; go_simp; with_reducible rfl
      simp only [Act.put, List.setIfInBounds_toArray, List.set_cons_zero, List.set_cons_succ]
      refine take_in (i := 14) (oi := ⟨_, _, _, _, _, _⟩) (v := ?_) rfl (by kernel_rfl) (by kernel_rfl) (by kernel_rfl) (fun _ _ _ h => h) (by rfl) ?_ HB4.out ?_
      rotate_left
      · intro W hW; have hq := HK.out W hW; go_simp; with_reducible rfl
      simp only [Act.put, List.setIfInBounds_toArray, List.set_cons_zero, List.set_cons_succ]
      refine wpAnyH_ready (rs := [15]) (by kernel_rfl) (by simp) ?_
      refine AllReadyH.cons (o := ⟨_, _, _, _, _, _⟩) rfl (fun K hK => ?_) AllReadyH.nil
      go_simp
      refine (less_c (a, d) (a, d) Ha.out Ha.out _).mono ?_
      rw [HAA.out]
      rintro e w6 ⟨rfl, hb⟩
      have HB5 := Lib.hid (HB4.out.trans (hb.mono HB4.out.size)); clear hb
      refine hK.out _ _ HB5.out (fun _ => ?_)
      clear hK K
      refine take_in (i := 16) (oi := ⟨_, _, _, _, _, _⟩) (v := ?_) rfl (by kernel_rfl) (by kernel_rfl) (by kernel_rfl) (fun _ _ _ h => h) (by rfl) ?_ HB5.out ?_
      rotate_left
      · intro W hW; have hq := HK.out W hW; go_simp; with_reducible rfl
      simp only [Act.put, List.setIfInBounds_toArray, List.set_cons_zero, List.set_cons_succ]
      refine take_in (i := 17) (oi := ⟨_, _, _, _, _, _⟩) (v := ?_) rfl (by kernel_rfl) (by kernel_rfl) (by kernel_rfl) (fun _ _ _ h => h) (by rfl) ?_ HB5.out ?_
      rotate_left
      · intro W hW; have hq := HK.out W hW; go_simp; with_reducible rfl
      simp only [Act.put, List.setIfInBounds_toArray, List.set_cons_zero, List.set_cons_succ]
      refine take_in (i := 18) (oi := ⟨_, _, _, _, _, _⟩) (v := ?_) rfl (by kernel_rfl) (by kernel_rfl) (by kernel_rfl) (fun _ _ _ h => h) (by rfl) ?_ HB5.out ?_
      rotate_left
      · intro W hW; have hq := HK.out W hW; go_simp; with_reducible rfl
      simp only [Act.put, List.setIfInBounds_toArray, List.set_cons_zero, List.set_cons_succ]
      refine take_in (i := 19) (oi := ⟨_, _, _, _, _, _⟩) (v := ?_) rfl (by kernel_rfl) (by kernel_rfl) (by kernel_rfl) (fun _ _ _ h => h) (by rfl) ?_ HB5.out ?_
      rotate_left
      · intro W hW; have hq := HK.out W hW; go_simp; with_reducible rfl
      simp only [Act.put, List.setIfInBounds_toArray, List.set_cons_zero, List.set_cons_succ]
      refine wpAnyH_ready (rs := [20]) (by kernel_rfl) (by simp) ?_
      refine AllReadyH.cons (o := ⟨_, _, _, _, _, _⟩) rfl (fun K hK => ?_) AllReadyH.nil
      go_simp
      refine (less_c (a, d) (b, c) Ha.out Hb.out _).mono ?_
      rw [HX.out]
      rintro e w7 ⟨rfl, hb⟩
      have HB6 := Lib.hid (HB5.out.trans (hb.mono HB5.out.size)); clear hb
      refine hK.out _ _ HB6.out (fun _ => ?_)
      clear hK K
      refine take_in (i := 21) (oi := ⟨_, _, _, _, _, _⟩) (v := ?_) rfl (by kernel_rfl) (by kernel_rfl) (by kernel_rfl) (fun _ _ _ h => h) (by rfl) ?_ HB6.out ?_
      rotate_left
      · intro W hW; have hq := HK.out W hW; go_simp; with_reducible rfl
      simp only [Act.put, List.setIfInBounds_toArray, List.set_cons_zero, List.set_cons_succ]
      refine skip_in (i := 22) (oi := ⟨_, _, _, _, _, _⟩) rfl (by kernel_rfl) (by kernel_rfl) (by kernel_rfl) (fun _ _ _ h => h) (by rfl) HB6.out ?_
      simp only [Act.put, List.setIfInBounds_toArray, List.set_cons_zero, List.set_cons_succ]
      refine skip_in (i := 23) (oi := ⟨_, _, _, _, _, _⟩) rfl (by kernel_rfl) (by kernel_rfl) (by kernel_rfl) (fun _ _ _ h => h) (by rfl) HB6.out ?_
      simp only [Act.put, List.setIfInBounds_toArray, List.set_cons_zero, List.set_cons_succ]
      refine skip_in (i := 24) (oi := ⟨_, _, _, _, _, _⟩) rfl (by kernel_rfl) (by kernel_rfl) (by kernel_rfl) (fun _ _ _ h => h) (by rfl) HB6.out ?_
      simp only [Act.put, List.setIfInBounds_toArray, List.set_cons_zero, List.set_cons_succ]
      refine take_in (i := 25) (oi := ⟨_, _, _, _, _, _⟩) (v := ?_) rfl (by kernel_rfl) (by kernel_rfl) (by kernel_rfl) (fun _ _ _ h => h) (by rfl) ?_ HB6.out ?_
      rotate_left
      · intro W hW; have hq := HK.out W hW; go_simp; with_reducible rfl
      simp only [Act.put, List.setIfInBounds_toArray, List.set_cons_zero, List.set_cons_succ]
      refine take_in (i := 26) (oi := ⟨_, _, _, _, _, _⟩) (v := ?_) rfl (by kernel_rfl) (by kernel_rfl) (by kernel_rfl) (fun _ _ _ h => h) (by rfl) ?_ HB6.out ?_
      rotate_left
      · intro W hW; have hq := HK.out W hW; go_simp; with_reducible rfl
      simp only [Act.put, List.setIfInBounds_toArray, List.set_cons_zero, List.set_cons_succ]
      refine skip_in (i := 27) (oi := ⟨_, _, _, _, _, _⟩) rfl (by kernel_rfl) (by kernel_rfl) (by kernel_rfl) (fun _ _ _ h => h) (by rfl) HB6.out ?_
      simp only [Act.put, List.setIfInBounds_toArray, List.set_cons_zero, List.set_cons_succ]
      refine skip_in (i := 28) (oi := ⟨_, _, _, _, _, _⟩) rfl (by kernel_rfl) (by kernel_rfl) (by kernel_rfl) (fun _ _ _ h => h) (by rfl) HB6.out ?_
      simp only [Act.put, List.setIfInBounds_toArray, List.set_cons_zero, List.set_cons_succ]
      refine skip_in (i := 29) (oi := ⟨_, _, _, _, _, _⟩) rfl (by kernel_rfl) (by kernel_rfl) (by kernel_rfl) (fun _ _ _ h => h) (by rfl) HB6.out ?_
      simp only [Act.put, List.setIfInBounds_toArray, List.set_cons_zero, List.set_cons_succ]
      refine skip_in (i := 30) (oi := ⟨_, _, _, _, _, _⟩) rfl (by kernel_rfl) (by kernel_rfl) (by kernel_rfl) (fun _ _ _ h => h) (by rfl) HB6.out ?_
      simp only [Act.put, List.setIfInBounds_toArray, List.set_cons_zero, List.set_cons_succ]
      refine take_in (i := 31) (oi := ⟨_, _, _, _, _, _⟩) (v := ?_) rfl (by kernel_rfl) (by kernel_rfl) (by kernel_rfl) (fun _ _ _ h => h) (by rfl) ?_ HB6.out ?_
      rotate_left
      · intro W hW; have hq := HK.out W hW; go_simp; with_reducible rfl
      simp only [Act.put, List.setIfInBounds_toArray, List.set_cons_zero, List.set_cons_succ]
      refine take_in (i := 32) (oi := ⟨_, _, _, _, _, _⟩) (v := ?_) rfl (by kernel_rfl) (by kernel_rfl) (by kernel_rfl) (fun _ _ _ h => h) (by rfl) ?_ HB6.out ?_
      rotate_left
      · intro W hW; have hq := HK.out W hW; go_simp; with_reducible rfl
      simp only [Act.put, List.setIfInBounds_toArray, List.set_cons_zero, List.set_cons_succ]
      refine wpAnyH_done (by kernel_rfl) ?_ _
      have HBZ := HB6
      have V1 := Lib.hid (V1.out.all HBZ.out); have V2 := Lib.hid (V2.out.all HBZ.out); have V3 := Lib.hid (V3.out.all HBZ.out)
      have HB := Lib.hid (HB.out.trans (HBZ.out.mono HB.out.size))
      generalize w7 = w20 at V1 V2 V3 HB ⊢
      clear HBZ
      have a0 := V1.out.c0; have a1 := V1.out.c1
      have b0 := V2.out.c0; have b1 := V2.out.c1
      have c0 := V3.out.c0; have c1 := V3.out.c1
      go_wp2_with fail
      clear a0 a1 b0 b1 c0 c1
      have RX := Lib.hid (show Rt (w20.alloc (.cells #[.int .i64 a, .int .i64 d, .int .i64 b, .int .i64 c, .int .i64 f, .int .i64 g] 23)) (w20.alloc (.cells #[.int .i64 a, .int .i64 d, .int .i64 b, .int .i64 c, .int .i64 f, .int .i64 g] 23)).heap.size (some ⟨w20.heap.size, 0, none⟩) [(a, d), (b, c), (f, g)] from (rt_new w20 [(a, d), (b, c), (f, g)]).more (by simp))
      have V1 := Lib.hid (show Tx (w20.alloc (.cells #[.int .i64 a, .int .i64 d, .int .i64 b, .int .i64 c, .int .i64 f, .int .i64 g] 23)) w.heap.size a d from hbe V1.out)
      have V2 := Lib.hid (show Tx (w20.alloc (.cells #[.int .i64 a, .int .i64 d, .int .i64 b, .int .i64 c, .int .i64 f, .int .i64 g] 23)) (w.heap.size + 1) b c from hbe V2.out)
      have V3 := Lib.hid (show Tx (w20.alloc (.cells #[.int .i64 a, .int .i64 d, .int .i64 b, .int .i64 c, .int .i64 f, .int .i64 g] 23)) (w.heap.size + 1 + 1) f g from hbe V3.out)
      have HB := Lib.hid (bal HB.out (Nat.le_refl _) (.cells #[.int .i64 a, .int .i64 d, .int .i64 b, .int .i64 c, .int .i64 f, .int .i64 g] 23))
      generalize w20.alloc (.cells #[.int .i64 a, .int .i64 d, .int .i64 b, .int .i64 c, .int .i64 f, .int .i64 g] 23) = w21 at RX V1 V2 V3 HB ⊢
      generalize w20.heap.size = gs at RX ⊢
      refine (max_c _ 3 3 [(a, d), (b, c), (f, g)] rfl (by omega) (Nat.le_refl _) HI.out _ _ RX.out (Nat.le_refl _)).mono ?_
      rintro e w22 ⟨rfl, hb22⟩
      have V1 := Lib.hid (V1.out.all hb22); have V2 := Lib.hid (V2.out.all hb22); have V3 := Lib.hid (V3.out.all hb22)
      have HB := Lib.hid (HB.out.trans (hb22.mono HB.out.size)); clear hb22
      generalize maxT [(a, d), (b, c), (f, g)] = mm at HMX HIM ⊢
      obtain ⟨p, q⟩ := mm
      have L1 := Lib.hid (HMX.out.2 (a, d) (by simp))
      have L2 := Lib.hid (HMX.out.2 (b, c) (by simp))
      have L3 := Lib.hid (HMX.out.2 (f, g) (by simp))
      have a0 : ∀ o, (w22.alloc o).cell? ⟨w.heap.size, 0, none⟩ = some (.int .i64 a) := fun o => (show Tx (w22.alloc o) w.heap.size a d from hbe V1.out).c0
      have a1 : ∀ o, (w22.alloc o).cell? ⟨w.heap.size, 1, none⟩ = some (.int .i64 d) := fun o => (show Tx (w22.alloc o) w.heap.size a d from hbe V1.out).c1
      unfold tv
      go_wp2_with fail
      clear a0 a1
      have V1 := Lib.hid (show Tx (w22.alloc (.cells #[.int .i64 p, .int .i64 q] 23)) w.heap.size a d from hbe V1.out)
      have V2 := Lib.hid (show Tx (w22.alloc (.cells #[.int .i64 p, .int .i64 q] 23)) (w.heap.size + 1) b c from hbe V2.out)
      have V3 := Lib.hid (show Tx (w22.alloc (.cells #[.int .i64 p, .int .i64 q] 23)) (w.heap.size + 1 + 1) f g from hbe V3.out)
      have V4 := Lib.hid (show Tx (w22.alloc (.cells #[.int .i64 p, .int .i64 q] 23)) w22.heap.size p q from hat _ _ _ rfl)
      have HB := Lib.hid (bal HB.out (Nat.le_refl _) (.cells #[.int .i64 p, .int .i64 q] 23))
      generalize w22.alloc (.cells #[.int .i64 p, .int .i64 q] 23) = w23 at V1 V2 V3 V4 HB ⊢
      generalize w22.heap.size = gm at V4 ⊢
      refine (less_c (p, q) (a, d) HIM.out Ha.out _).mono ?_
      rw [L1.out]
      rintro e w24 ⟨rfl, hb⟩
      have V1 := Lib.hid (V1.out.all hb); have V2 := Lib.hid (V2.out.all hb); have V3 := Lib.hid (V3.out.all hb); have V4 := Lib.hid (V4.out.all hb)
      have HB := Lib.hid (HB.out.trans (hb.mono HB.out.size)); clear hb
      have b0 := V2.out.c0; have b1 := V2.out.c1; have m0 := V4.out.c0; have m1 := V4.out.c1
      go_wp2_with fail
      clear b0 b1 m0 m1
      refine (less_c (p, q) (b, c) HIM.out Hb.out _).mono ?_
      rw [L2.out]
      rintro e w25 ⟨rfl, hb⟩
      have V1 := Lib.hid (V1.out.all hb); have V2 := Lib.hid (V2.out.all hb); have V3 := Lib.hid (V3.out.all hb); have V4 := Lib.hid (V4.out.all hb)
      have HB := Lib.hid (HB.out.trans (hb.mono HB.out.size)); clear hb
      have b0 := V3.out.c0; have b1 := V3.out.c1; have m0 := V4.out.c0; have m1 := V4.out.c1
      go_wp2_with fail
      clear b0 b1 m0 m1
      refine (less_c (p, q) (f, g) HIM.out Hc.out _).mono ?_
      rw [L3.out]
      rintro e w26 ⟨rfl, hb⟩
      have V1 := Lib.hid (V1.out.all hb); have V2 := Lib.hid (V2.out.all hb); have V3 := Lib.hid (V3.out.all hb); have V4 := Lib.hid (V4.out.all hb)
      have HB := Lib.hid (HB.out.trans (hb.mono HB.out.size)); clear hb
      have a0 := V1.out.c0; have a1 := V1.out.c1; have b0 := V2.out.c0; have b1 := V2.out.c1; have c0 := V3.out.c0; have c1 := V3.out.c1; have m0 := V4.out.c0; have m1 := V4.out.c1
      have HM := Lib.hid HMX.out.1
      clear HMX HIM HI L1 L2 L3 HX HY HAA HK Ha Hb Hc V1 V2 V3 V4
      by_cases e1 : (p == a && q == d) = true
      · go_wp2
        go_ret
        exact ⟨rfl, HB.out⟩
      by_cases e2 : (p == b && q == c) = true
      · have e1 := Bool.eq_false_iff.2 e1
        go_wp2
        go_ret
        exact ⟨rfl, HB.out⟩
      have e3 : (p == f && q == g) = true := by
        have h := HM.out
        simp only [List.mem_cons, List.not_mem_nil, or_false, Prod.mk.injEq] at h
        simp only [Bool.and_eq_true, beq_iff_eq] at e1 e2 ⊢
        rcases h with h | h | h
        · exact absurd h e1
        · exact absurd h e2
        · exact h
      have e1 := Bool.eq_false_iff.2 e1
      have e2 := Bool.eq_false_iff.2 e2
      go_wp2
      go_ret
      exact ⟨rfl, HB.out⟩
    · have HY : Hid (less (b, c) (a, d) = true) := Lib.hid (by
        simp only [Bool.and_eq_true, beq_iff_eq] at he
        rw [less_not] at hx; rw [less_iff]; simp only at hx ⊢; omega)
      clear hx he
      go_wp2_with fail
      refine wp_region_held_drew (S := fun W' => Below w2.heap.size w2 W') (by kernel_rfl) (Below.refl _ _).drew (fun hHeld => ?_)
      generalize w2.drew = w3 at hHeld ⊢
      have HB2 : Hid (Below w2.heap.size w2 w3) := hHeld
      clear hHeld
      refine take_in (i := 0) (oi := ⟨_, _, _, _, _, _⟩) (v := ?_) rfl (by kernel_rfl) (by kernel_rfl) (by kernel_rfl) (fun _ _ _ h => h) (by rfl) ?_ HB2.out ?_
      rotate_left
      · intro W hW; have hq := HK.out W hW; go_simp; with_reducible rfl
      simp only [Act.put, List.setIfInBounds_toArray, List.set_cons_zero, List.set_cons_succ]
      refine take_in (i := 1) (oi := ⟨_, _, _, _, _, _⟩) (v := ?_) rfl (by kernel_rfl) (by kernel_rfl) (by kernel_rfl) (fun _ _ _ h => h) (by rfl) ?_ HB2.out ?_
      rotate_left
      · intro W hW; have hq := HK.out W hW; go_simp; with_reducible rfl
      simp only [Act.put, List.setIfInBounds_toArray, List.set_cons_zero, List.set_cons_succ]
      refine take_in (i := 3) (oi := ⟨_, _, _, _, _, _⟩) (v := ?_) rfl (by kernel_rfl) (by kernel_rfl) (by kernel_rfl) (fun _ _ _ h => h) (by rfl) ?_ HB2.out ?_
      rotate_left
      · intro W hW; have hq := HK.out W hW; go_simp; with_reducible rfl
      simp only [Act.put, List.setIfInBounds_toArray, List.set_cons_zero, List.set_cons_succ]
      refine take_in (i := 4) (oi := ⟨_, _, _, _, _, _⟩) (v := ?_) rfl (by kernel_rfl) (by kernel_rfl) (by kernel_rfl) (fun _ _ _ h => h) (by rfl) ?_ HB2.out ?_
      rotate_left
      · intro W hW; have hq := HK.out W hW; go_simp; with_reducible rfl
      simp only [Act.put, List.setIfInBounds_toArray, List.set_cons_zero, List.set_cons_succ]
      refine wpAnyH_ready (rs := [2]) (by kernel_rfl) (by simp) ?_
      refine AllReadyH.cons (o := ⟨_, _, _, _, _, _⟩) rfl (fun K hK => ?_) AllReadyH.nil
      go_simp
      refine (less_c (a, d) (b, c) Ha.out Hb.out _).mono ?_
      rw [HX.out]
      rintro e w4 ⟨rfl, hb⟩
      have HB3 := Lib.hid (HB2.out.trans (hb.mono HB2.out.size)); clear hb
      refine hK.out _ _ HB3.out (fun _ => ?_)
      clear hK K
      refine wpAnyH_ready (rs := [5]) (by kernel_rfl) (by simp) ?_
      refine AllReadyH.cons (o := ⟨_, _, _, _, _, _⟩) rfl (fun K hK => ?_) AllReadyH.nil
      go_simp
      refine (less_c (b, c) (a, d) Hb.out Ha.out _).mono ?_
      rw [HY.out]
      rintro e w5 ⟨rfl, hb⟩
      have HB4 := Lib.hid (HB3.out.trans (hb.mono HB3.out.size)); clear hb
      refine hK.out _ _ HB4.out (fun _ => ?_)
      clear hK K
      refine take_in (i := 6) (oi := ⟨_, _, _, _, _, _⟩) (v := ?_) rfl (by kernel_rfl) (by kernel_rfl) (by kernel_rfl) (fun _ _ _ h => h) (by rfl) ?_ HB4.out ?_
      rotate_left
      · intro W hW; have hq := HK.out W hW; go_simp; with_reducible rfl
      simp only [Act.put, List.setIfInBounds_toArray, List.set_cons_zero, List.set_cons_succ]
      refine take_in (i := 7) (oi := ⟨_, _, _, _, _, _⟩) (v := ?_) rfl (by kernel_rfl) (by kernel_rfl) (by kernel_rfl) (fun _ _ _ h => h) (by rfl) ?_ HB4.out ?_
      rotate_left
      · intro W hW; have hq := HK.out W hW; go_simp; with_reducible rfl
      simp only [Act.put, List.setIfInBounds_toArray, List.set_cons_zero, List.set_cons_succ]
      refine skip_in (i := 8) (oi := ⟨_, _, _, _, _, _⟩) rfl (by kernel_rfl) (by kernel_rfl) (by kernel_rfl) (fun _ _ _ h => h) (by rfl) HB4.out ?_
      simp only [Act.put, List.setIfInBounds_toArray, List.set_cons_zero, List.set_cons_succ]
      refine skip_in (i := 9) (oi := ⟨_, _, _, _, _, _⟩) rfl (by kernel_rfl) (by kernel_rfl) (by kernel_rfl) (fun _ _ _ h => h) (by rfl) HB4.out ?_
      simp only [Act.put, List.setIfInBounds_toArray, List.set_cons_zero, List.set_cons_succ]
      refine skip_in (i := 10) (oi := ⟨_, _, _, _, _, _⟩) rfl (by kernel_rfl) (by kernel_rfl) (by kernel_rfl) (fun _ _ _ h => h) (by rfl) HB4.out ?_
      simp only [Act.put, List.setIfInBounds_toArray, List.set_cons_zero, List.set_cons_succ]
      refine take_in (i := 11) (oi := ⟨_, _, _, _, _, _⟩) (v := ?_) rfl (by kernel_rfl) (by kernel_rfl) (by kernel_rfl) (fun _ _ _ h => h) (by rfl) ?_ HB4.out ?_
      rotate_left
      · intro W hW; have hq := HK.out W hW; go_simp; with_reducible rfl
      simp only [Act.put, List.setIfInBounds_toArray, List.set_cons_zero, List.set_cons_succ]
      refine take_in (i := 12) (oi := ⟨_, _, _, _, _, _⟩) (v := ?_) rfl (by kernel_rfl) (by kernel_rfl) (by kernel_rfl) (fun _ _ _ h => h) (by rfl) ?_ HB4.out ?_
      rotate_left
      · intro W hW; have hq := HK.out W hW; go_simp; with_reducible rfl
      simp only [Act.put, List.setIfInBounds_toArray, List.set_cons_zero, List.set_cons_succ]
      refine take_in (i := 13) (oi := ⟨_, _, _, _, _, _⟩) (v := ?_) rfl (by kernel_rfl) (by kernel_rfl) (by kernel_rfl) (fun _ _ _ h => h) (by rfl) ?_ HB4.out ?_
      rotate_left
      · intro W hW; have hq := HK.out W hW; go_simp; with_reducible rfl
      simp only [Act.put, List.setIfInBounds_toArray, List.set_cons_zero, List.set_cons_succ]
      refine take_in (i := 14) (oi := ⟨_, _, _, _, _, _⟩) (v := ?_) rfl (by kernel_rfl) (by kernel_rfl) (by kernel_rfl) (fun _ _ _ h => h) (by rfl) ?_ HB4.out ?_
      rotate_left
      · intro W hW; have hq := HK.out W hW; go_simp; with_reducible rfl
      simp only [Act.put, List.setIfInBounds_toArray, List.set_cons_zero, List.set_cons_succ]
      refine wpAnyH_ready (rs := [15]) (by kernel_rfl) (by simp) ?_
      refine AllReadyH.cons (o := ⟨_, _, _, _, _, _⟩) rfl (fun K hK => ?_) AllReadyH.nil
      go_simp
      refine (less_c (a, d) (a, d) Ha.out Ha.out _).mono ?_
      rw [HAA.out]
      rintro e w6 ⟨rfl, hb⟩
      have HB5 := Lib.hid (HB4.out.trans (hb.mono HB4.out.size)); clear hb
      refine hK.out _ _ HB5.out (fun _ => ?_)
      clear hK K
      refine take_in (i := 16) (oi := ⟨_, _, _, _, _, _⟩) (v := ?_) rfl (by kernel_rfl) (by kernel_rfl) (by kernel_rfl) (fun _ _ _ h => h) (by rfl) ?_ HB5.out ?_
      rotate_left
      · intro W hW; have hq := HK.out W hW; go_simp; with_reducible rfl
      simp only [Act.put, List.setIfInBounds_toArray, List.set_cons_zero, List.set_cons_succ]
      refine take_in (i := 17) (oi := ⟨_, _, _, _, _, _⟩) (v := ?_) rfl (by kernel_rfl) (by kernel_rfl) (by kernel_rfl) (fun _ _ _ h => h) (by rfl) ?_ HB5.out ?_
      rotate_left
      · intro W hW; have hq := HK.out W hW; go_simp; with_reducible rfl
      simp only [Act.put, List.setIfInBounds_toArray, List.set_cons_zero, List.set_cons_succ]
      refine take_in (i := 18) (oi := ⟨_, _, _, _, _, _⟩) (v := ?_) rfl (by kernel_rfl) (by kernel_rfl) (by kernel_rfl) (fun _ _ _ h => h) (by rfl) ?_ HB5.out ?_
      rotate_left
      · intro W hW; have hq := HK.out W hW; go_simp; with_reducible rfl
      simp only [Act.put, List.setIfInBounds_toArray, List.set_cons_zero, List.set_cons_succ]
      refine take_in (i := 19) (oi := ⟨_, _, _, _, _, _⟩) (v := ?_) rfl (by kernel_rfl) (by kernel_rfl) (by kernel_rfl) (fun _ _ _ h => h) (by rfl) ?_ HB5.out ?_
      rotate_left
      · intro W hW; have hq := HK.out W hW; go_simp; with_reducible rfl
      simp only [Act.put, List.setIfInBounds_toArray, List.set_cons_zero, List.set_cons_succ]
      refine wpAnyH_ready (rs := [20]) (by kernel_rfl) (by simp) ?_
      refine AllReadyH.cons (o := ⟨_, _, _, _, _, _⟩) rfl (fun K hK => ?_) AllReadyH.nil
      go_simp
      refine (less_c (a, d) (b, c) Ha.out Hb.out _).mono ?_
      rw [HX.out]
      rintro e w7 ⟨rfl, hb⟩
      have HB6 := Lib.hid (HB5.out.trans (hb.mono HB5.out.size)); clear hb
      refine hK.out _ _ HB6.out (fun _ => ?_)
      clear hK K
      refine take_in (i := 21) (oi := ⟨_, _, _, _, _, _⟩) (v := ?_) rfl (by kernel_rfl) (by kernel_rfl) (by kernel_rfl) (fun _ _ _ h => h) (by rfl) ?_ HB6.out ?_
      rotate_left
      · intro W hW; have hq := HK.out W hW; go_simp; with_reducible rfl
      simp only [Act.put, List.setIfInBounds_toArray, List.set_cons_zero, List.set_cons_succ]
      refine skip_in (i := 22) (oi := ⟨_, _, _, _, _, _⟩) rfl (by kernel_rfl) (by kernel_rfl) (by kernel_rfl) (fun _ _ _ h => h) (by rfl) HB6.out ?_
      simp only [Act.put, List.setIfInBounds_toArray, List.set_cons_zero, List.set_cons_succ]
      refine skip_in (i := 23) (oi := ⟨_, _, _, _, _, _⟩) rfl (by kernel_rfl) (by kernel_rfl) (by kernel_rfl) (fun _ _ _ h => h) (by rfl) HB6.out ?_
      simp only [Act.put, List.setIfInBounds_toArray, List.set_cons_zero, List.set_cons_succ]
      refine skip_in (i := 24) (oi := ⟨_, _, _, _, _, _⟩) rfl (by kernel_rfl) (by kernel_rfl) (by kernel_rfl) (fun _ _ _ h => h) (by rfl) HB6.out ?_
      simp only [Act.put, List.setIfInBounds_toArray, List.set_cons_zero, List.set_cons_succ]
      refine take_in (i := 25) (oi := ⟨_, _, _, _, _, _⟩) (v := ?_) rfl (by kernel_rfl) (by kernel_rfl) (by kernel_rfl) (fun _ _ _ h => h) (by rfl) ?_ HB6.out ?_
      rotate_left
      · intro W hW; have hq := HK.out W hW; go_simp; with_reducible rfl
      simp only [Act.put, List.setIfInBounds_toArray, List.set_cons_zero, List.set_cons_succ]
      refine take_in (i := 26) (oi := ⟨_, _, _, _, _, _⟩) (v := ?_) rfl (by kernel_rfl) (by kernel_rfl) (by kernel_rfl) (fun _ _ _ h => h) (by rfl) ?_ HB6.out ?_
      rotate_left
      · intro W hW; have hq := HK.out W hW; go_simp; with_reducible rfl
      simp only [Act.put, List.setIfInBounds_toArray, List.set_cons_zero, List.set_cons_succ]
      refine skip_in (i := 27) (oi := ⟨_, _, _, _, _, _⟩) rfl (by kernel_rfl) (by kernel_rfl) (by kernel_rfl) (fun _ _ _ h => h) (by rfl) HB6.out ?_
      simp only [Act.put, List.setIfInBounds_toArray, List.set_cons_zero, List.set_cons_succ]
      refine skip_in (i := 28) (oi := ⟨_, _, _, _, _, _⟩) rfl (by kernel_rfl) (by kernel_rfl) (by kernel_rfl) (fun _ _ _ h => h) (by rfl) HB6.out ?_
      simp only [Act.put, List.setIfInBounds_toArray, List.set_cons_zero, List.set_cons_succ]
      refine skip_in (i := 29) (oi := ⟨_, _, _, _, _, _⟩) rfl (by kernel_rfl) (by kernel_rfl) (by kernel_rfl) (fun _ _ _ h => h) (by rfl) HB6.out ?_
      simp only [Act.put, List.setIfInBounds_toArray, List.set_cons_zero, List.set_cons_succ]
      refine skip_in (i := 30) (oi := ⟨_, _, _, _, _, _⟩) rfl (by kernel_rfl) (by kernel_rfl) (by kernel_rfl) (fun _ _ _ h => h) (by rfl) HB6.out ?_
      simp only [Act.put, List.setIfInBounds_toArray, List.set_cons_zero, List.set_cons_succ]
      refine take_in (i := 31) (oi := ⟨_, _, _, _, _, _⟩) (v := ?_) rfl (by kernel_rfl) (by kernel_rfl) (by kernel_rfl) (fun _ _ _ h => h) (by rfl) ?_ HB6.out ?_
      rotate_left
      · intro W hW; have hq := HK.out W hW; go_simp; with_reducible rfl
      simp only [Act.put, List.setIfInBounds_toArray, List.set_cons_zero, List.set_cons_succ]
      refine take_in (i := 32) (oi := ⟨_, _, _, _, _, _⟩) (v := ?_) rfl (by kernel_rfl) (by kernel_rfl) (by kernel_rfl) (fun _ _ _ h => h) (by rfl) ?_ HB6.out ?_
      rotate_left
      · intro W hW; have hq := HK.out W hW; go_simp; with_reducible rfl
      simp only [Act.put, List.setIfInBounds_toArray, List.set_cons_zero, List.set_cons_succ]
      refine wpAnyH_done (by kernel_rfl) ?_ _
      have HBZ := HB6
      have V1 := Lib.hid (V1.out.all HBZ.out); have V2 := Lib.hid (V2.out.all HBZ.out); have V3 := Lib.hid (V3.out.all HBZ.out)
      have HB := Lib.hid (HB.out.trans (HBZ.out.mono HB.out.size))
      generalize w7 = w20 at V1 V2 V3 HB ⊢
      clear HBZ
      have a0 := V1.out.c0; have a1 := V1.out.c1
      have b0 := V2.out.c0; have b1 := V2.out.c1
      have c0 := V3.out.c0; have c1 := V3.out.c1
      go_wp2_with fail
      clear a0 a1 b0 b1 c0 c1
      have RX := Lib.hid (show Rt (w20.alloc (.cells #[.int .i64 a, .int .i64 d, .int .i64 b, .int .i64 c, .int .i64 f, .int .i64 g] 23)) (w20.alloc (.cells #[.int .i64 a, .int .i64 d, .int .i64 b, .int .i64 c, .int .i64 f, .int .i64 g] 23)).heap.size (some ⟨w20.heap.size, 0, none⟩) [(a, d), (b, c), (f, g)] from (rt_new w20 [(a, d), (b, c), (f, g)]).more (by simp))
      have V1 := Lib.hid (show Tx (w20.alloc (.cells #[.int .i64 a, .int .i64 d, .int .i64 b, .int .i64 c, .int .i64 f, .int .i64 g] 23)) w.heap.size a d from hbe V1.out)
      have V2 := Lib.hid (show Tx (w20.alloc (.cells #[.int .i64 a, .int .i64 d, .int .i64 b, .int .i64 c, .int .i64 f, .int .i64 g] 23)) (w.heap.size + 1) b c from hbe V2.out)
      have V3 := Lib.hid (show Tx (w20.alloc (.cells #[.int .i64 a, .int .i64 d, .int .i64 b, .int .i64 c, .int .i64 f, .int .i64 g] 23)) (w.heap.size + 1 + 1) f g from hbe V3.out)
      have HB := Lib.hid (bal HB.out (Nat.le_refl _) (.cells #[.int .i64 a, .int .i64 d, .int .i64 b, .int .i64 c, .int .i64 f, .int .i64 g] 23))
      generalize w20.alloc (.cells #[.int .i64 a, .int .i64 d, .int .i64 b, .int .i64 c, .int .i64 f, .int .i64 g] 23) = w21 at RX V1 V2 V3 HB ⊢
      generalize w20.heap.size = gs at RX ⊢
      refine (max_c _ 3 3 [(a, d), (b, c), (f, g)] rfl (by omega) (Nat.le_refl _) HI.out _ _ RX.out (Nat.le_refl _)).mono ?_
      rintro e w22 ⟨rfl, hb22⟩
      have V1 := Lib.hid (V1.out.all hb22); have V2 := Lib.hid (V2.out.all hb22); have V3 := Lib.hid (V3.out.all hb22)
      have HB := Lib.hid (HB.out.trans (hb22.mono HB.out.size)); clear hb22
      generalize maxT [(a, d), (b, c), (f, g)] = mm at HMX HIM ⊢
      obtain ⟨p, q⟩ := mm
      have L1 := Lib.hid (HMX.out.2 (a, d) (by simp))
      have L2 := Lib.hid (HMX.out.2 (b, c) (by simp))
      have L3 := Lib.hid (HMX.out.2 (f, g) (by simp))
      have a0 : ∀ o, (w22.alloc o).cell? ⟨w.heap.size, 0, none⟩ = some (.int .i64 a) := fun o => (show Tx (w22.alloc o) w.heap.size a d from hbe V1.out).c0
      have a1 : ∀ o, (w22.alloc o).cell? ⟨w.heap.size, 1, none⟩ = some (.int .i64 d) := fun o => (show Tx (w22.alloc o) w.heap.size a d from hbe V1.out).c1
      unfold tv
      go_wp2_with fail
      clear a0 a1
      have V1 := Lib.hid (show Tx (w22.alloc (.cells #[.int .i64 p, .int .i64 q] 23)) w.heap.size a d from hbe V1.out)
      have V2 := Lib.hid (show Tx (w22.alloc (.cells #[.int .i64 p, .int .i64 q] 23)) (w.heap.size + 1) b c from hbe V2.out)
      have V3 := Lib.hid (show Tx (w22.alloc (.cells #[.int .i64 p, .int .i64 q] 23)) (w.heap.size + 1 + 1) f g from hbe V3.out)
      have V4 := Lib.hid (show Tx (w22.alloc (.cells #[.int .i64 p, .int .i64 q] 23)) w22.heap.size p q from hat _ _ _ rfl)
      have HB := Lib.hid (bal HB.out (Nat.le_refl _) (.cells #[.int .i64 p, .int .i64 q] 23))
      generalize w22.alloc (.cells #[.int .i64 p, .int .i64 q] 23) = w23 at V1 V2 V3 V4 HB ⊢
      generalize w22.heap.size = gm at V4 ⊢
      refine (less_c (p, q) (a, d) HIM.out Ha.out _).mono ?_
      rw [L1.out]
      rintro e w24 ⟨rfl, hb⟩
      have V1 := Lib.hid (V1.out.all hb); have V2 := Lib.hid (V2.out.all hb); have V3 := Lib.hid (V3.out.all hb); have V4 := Lib.hid (V4.out.all hb)
      have HB := Lib.hid (HB.out.trans (hb.mono HB.out.size)); clear hb
      have b0 := V2.out.c0; have b1 := V2.out.c1; have m0 := V4.out.c0; have m1 := V4.out.c1
      go_wp2_with fail
      clear b0 b1 m0 m1
      refine (less_c (p, q) (b, c) HIM.out Hb.out _).mono ?_
      rw [L2.out]
      rintro e w25 ⟨rfl, hb⟩
      have V1 := Lib.hid (V1.out.all hb); have V2 := Lib.hid (V2.out.all hb); have V3 := Lib.hid (V3.out.all hb); have V4 := Lib.hid (V4.out.all hb)
      have HB := Lib.hid (HB.out.trans (hb.mono HB.out.size)); clear hb
      have b0 := V3.out.c0; have b1 := V3.out.c1; have m0 := V4.out.c0; have m1 := V4.out.c1
      go_wp2_with fail
      clear b0 b1 m0 m1
      refine (less_c (p, q) (f, g) HIM.out Hc.out _).mono ?_
      rw [L3.out]
      rintro e w26 ⟨rfl, hb⟩
      have V1 := Lib.hid (V1.out.all hb); have V2 := Lib.hid (V2.out.all hb); have V3 := Lib.hid (V3.out.all hb); have V4 := Lib.hid (V4.out.all hb)
      have HB := Lib.hid (HB.out.trans (hb.mono HB.out.size)); clear hb
      have a0 := V1.out.c0; have a1 := V1.out.c1; have b0 := V2.out.c0; have b1 := V2.out.c1; have c0 := V3.out.c0; have c1 := V3.out.c1; have m0 := V4.out.c0; have m1 := V4.out.c1
      have HM := Lib.hid HMX.out.1
      clear HMX HIM HI L1 L2 L3 HX HY HAA HK Ha Hb Hc V1 V2 V3 V4
      by_cases e1 : (p == a && q == d) = true
      · go_wp2
        go_ret
        exact ⟨rfl, HB.out⟩
      by_cases e2 : (p == b && q == c) = true
      · have e1 := Bool.eq_false_iff.2 e1
        go_wp2
        go_ret
        exact ⟨rfl, HB.out⟩
      have e3 : (p == f && q == g) = true := by
        have h := HM.out
        simp only [List.mem_cons, List.not_mem_nil, or_false, Prod.mk.injEq] at h
        simp only [Bool.and_eq_true, beq_iff_eq] at e1 e2 ⊢
        rcases h with h | h | h
        · exact absurd h e1
        · exact absurd h e2
        · exact h
      have e1 := Bool.eq_false_iff.2 e1
      have e2 := Bool.eq_false_iff.2 e2
      go_wp2
      go_ret
      exact ⟨rfl, HB.out⟩
end Go.Proofs.Ytchkdinmnbjdfaa.tagChain
