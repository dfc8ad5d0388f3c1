/- The walk of ChangeBack. -/
import Derived.Test.YtjmbgajaflcbaaaChgA
import Derived.Test.YtjmbgajaflcbaaaWf
namespace Go.Proofs.Ytjmbgajaflcbaaa.changeBack
open Go.RowKit
open Chg

theorem named_name (a d : Nat) (ha : a < 64) (hd : d < 64) : namedF ((64 * a + d : Nat) : Int) = some (a, d) := by
  unfold namedF
  rw [if_pos (by omega)]
  congr 2 <;> omega

set_option maxRecDepth 100000 in
set_option maxHeartbeats 1000000 in
theorem right (w : World) (a d b c : Nat) (ha : a < 64) (hd : d < 64) (hb : b < 64) (hc : c < 64) :
    Calls Try.prog 7 #[vw a d, vw b c] w fun e w' => e = .returned (.bool true) ∧ Below w.heap.size w w' := by
  have heq := eq_view
  unfold vw
  go_enter Try.func7, Try.ntmps7
  go_wp2_with fail
  have V1 := Lib.hid (show Vx ((w.alloc (.cells #[.int .i64 (a : Int), .int .i64 (d : Int)] 23)).alloc (.cells #[.int .i64 (b : Int), .int .i64 (c : Int)] 23)) w.heap.size a d from hbe (hat _ _ _ rfl))
  have V2 := Lib.hid (show Vx ((w.alloc (.cells #[.int .i64 (a : Int), .int .i64 (d : Int)] 23)).alloc (.cells #[.int .i64 (b : Int), .int .i64 (c : Int)] 23)) (w.heap.size + 1) b c from hat _ _ _ (by simp))
  have HB := Lib.hid (bal (bal (Below.refl w.heap.size w) (Nat.le_refl _) (.cells #[.int .i64 (a : Int), .int .i64 (d : Int)] 23)) (Nat.le_refl _) (.cells #[.int .i64 (b : Int), .int .i64 (c : Int)] 23))
  generalize ((w.alloc (.cells #[.int .i64 (a : Int), .int .i64 (d : Int)] 23)).alloc (.cells #[.int .i64 (b : Int), .int .i64 (c : Int)] 23)) = w1 at V1 V2 HB ⊢
  refine (alive_c _).mono ?_
  rintro e w2 ⟨rfl, hb2⟩
  have V1 := Lib.hid (V1.out.below hb2 V1.out.lt)
  have V2 := Lib.hid (V2.out.below hb2 V2.out.lt)
  have HB := Lib.hid (HB.out.trans (hb2.mono HB.out.size)); clear hb2
  have a0 := V1.out.c0; have a1 := V1.out.c1
  go_wp2_with fail
  refine (right_c a d _).mono ?_
  rw [show rightB (a : Int) (d : Int) = true from decide_eq_true (by omega)]
  rintro e w3 ⟨rfl, hb3⟩
  have V1 := Lib.hid (V1.out.below hb3 V1.out.lt)
  have V2 := Lib.hid (V2.out.below hb3 V2.out.lt)
  have HB := Lib.hid (HB.out.trans (hb3.mono HB.out.size)); clear hb3 a0 a1
  have a0 := V2.out.c0; have a1 := V2.out.c1
  go_wp2_with fail
  refine (right_c b c _).mono ?_
  rw [show rightB (b : Int) (c : Int) = true from decide_eq_true (by omega)]
  rintro e w4 ⟨rfl, hb4⟩
  have V1 := Lib.hid (V1.out.below hb4 V1.out.lt)
  have V2 := Lib.hid (V2.out.below hb4 V2.out.lt)
  have HB := Lib.hid (HB.out.trans (hb4.mono HB.out.size)); clear hb4 a0 a1
  have a0 := V1.out.c0; have a1 := V1.out.c1
  go_wp2_with fail
  refine (name_c a d ha hd _).mono ?_
  rintro e w5 ⟨rfl, hb5⟩
  have V1 := Lib.hid (V1.out.below hb5 V1.out.lt)
  have V2 := Lib.hid (V2.out.below hb5 V2.out.lt)
  have HB := Lib.hid (HB.out.trans (hb5.mono HB.out.size)); clear hb5 a0 a1
  obtain ⟨m1, hm1⟩ : ∃ m1, m1 = 64 * a + d := ⟨_, rfl⟩
  have HM1 := Lib.hid hm1
  rw [← hm1]
  clear hm1
  go_wp2_with fail
  refine (named_c m1 (by have := HM1.out; omega) _).mono ?_
  rw [show namedF (m1 : Int) = some (a, d) from by rw [HM1.out]; exact named_name a d ha hd]
  rintro e w6 ⟨rfl, hb6⟩
  have V1 := Lib.hid (V1.out.below hb6 V1.out.lt)
  have V2 := Lib.hid (V2.out.below hb6 V2.out.lt)
  have HB := Lib.hid (HB.out.trans (hb6.mono HB.out.size)); clear hb6
  have hge : ge (some (a, d)) = 0 := rfl
  have hgv : gv (some (a, d)) = (a, d) := rfl
  unfold vw
  rw [hgv]
  clear hgv
  go_wp2
  have V1 := Lib.hid (show Vx (w6.alloc (.cells #[.int .i64 (a : Int), .int .i64 (d : Int)] 23)) w.heap.size a d from hbe V1.out)
  have V2 := Lib.hid (show Vx (w6.alloc (.cells #[.int .i64 (a : Int), .int .i64 (d : Int)] 23)) (w.heap.size + 1) b c from hbe V2.out)
  have V3 := Lib.hid (show Vx (w6.alloc (.cells #[.int .i64 (a : Int), .int .i64 (d : Int)] 23)) w6.heap.size a d from hat _ _ _ rfl)
  have HB := Lib.hid (bal HB.out (Nat.le_refl _) (.cells #[.int .i64 (a : Int), .int .i64 (d : Int)] 23))
  generalize w6.alloc (.cells #[.int .i64 (a : Int), .int .i64 (d : Int)] 23) = w7 at V1 V2 V3 HB ⊢
  generalize w6.heap.size = g3 at V3 ⊢
  obtain ⟨m2, hm2⟩ : ∃ m2, m2 = 64 * b + c := ⟨_, rfl⟩
  obtain ⟨v, hv⟩ : ∃ v, v = (a == b && d == c) := ⟨_, rfl⟩
  have hv1 : ((m1 : Int) == (m2 : Int)) = v := by
    rw [hv, Bool.eq_iff_iff]
    have := HM1.out
    simp
    omega
  have hv2 : ((a : Int) == (b : Int) && (d : Int) == (c : Int)) = v := by
    rw [hv, Bool.eq_iff_iff]
    simp
    omega
  have HM2 := Lib.hid hm2
  have HV := Lib.hid hv
  have HK : Hid (∀ W', Below w7.heap.size w7 W' → (W'.cell? ⟨w.heap.size, 0, none⟩ = some (.int .i64 (a : Int)) ∧ W'.cell? ⟨w.heap.size, 1, none⟩ = some (.int .i64 (d : Int))) ∧ (W'.cell? ⟨w.heap.size + 1, 0, none⟩ = some (.int .i64 (b : Int)) ∧ W'.cell? ⟨w.heap.size + 1, 1, none⟩ = some (.int .i64 (c : Int))) ∧ W'.cell? ⟨g3, 0, none⟩ = some (.int .i64 (a : Int)) ∧ W'.cell? ⟨g3, 1, none⟩ = some (.int .i64 (d : Int))) := Lib.hid (by
    intro W' h
    have V1 := V1.out.below h V1.out.lt
    have V2 := V2.out.below h V2.out.lt
    have V3 := V3.out.below h V3.out.lt
    exact ⟨⟨V1.c0, V1.c1⟩, ⟨V2.c0, V2.c1⟩, V3.c0, V3.c1⟩)
  clear hm2 hv V3
  refine wp_region_held_drew (S := fun W' => Below w7.heap.size w7 W') (by kernel_rfl) (Below.refl _ _).drew (fun hHeld => ?_)
  generalize w7.drew = w8 at hHeld ⊢
  have HB8 : Hid (Below w7.heap.size w7 w8) := hHeld
  clear hHeld
  refine take_in (i := 0) (oi := ⟨_, _, _, _, _, _⟩) (v := ?_) rfl (by kernel_rfl) (by kernel_rfl) (by kernel_rfl) (fun _ _ _ h => h) (by rfl) ?_ HB8.out ?_
  rotate_left
  · intro W hW; have hq := HK.out W hW; go_simp; with_reducible rfl
  simp only [Act.put, List.setIfInBounds_toArray, List.set_cons_zero, List.set_cons_succ]
  refine take_in (i := 1) (oi := ⟨_, _, _, _, _, _⟩) (v := ?_) rfl (by kernel_rfl) (by kernel_rfl) (by kernel_rfl) (fun _ _ _ h => h) (by rfl) ?_ HB8.out ?_
  rotate_left
  · intro W hW; have hq := HK.out W hW; go_simp; with_reducible rfl
  simp only [Act.put, List.setIfInBounds_toArray, List.set_cons_zero, List.set_cons_succ]
  refine take_in (i := 2) (oi := ⟨_, _, _, _, _, _⟩) (v := ?_) rfl (by kernel_rfl) (by kernel_rfl) (by kernel_rfl) (fun _ _ _ h => h) (by rfl) ?_ HB8.out ?_
  rotate_left
  · intro W hW; have hq := HK.out W hW; go_simp; with_reducible rfl
  simp only [Act.put, List.setIfInBounds_toArray, List.set_cons_zero, List.set_cons_succ]
  refine take_in (i := 3) (oi := ⟨_, _, _, _, _, _⟩) (v := ?_) rfl (by kernel_rfl) (by kernel_rfl) (by kernel_rfl) (fun _ _ _ h => h) (by rfl) ?_ HB8.out ?_
  rotate_left
  · intro W hW; have hq := HK.out W hW; go_simp; with_reducible rfl
  simp only [Act.put, List.setIfInBounds_toArray, List.set_cons_zero, List.set_cons_succ]
  refine take_in (i := 4) (oi := ⟨_, _, _, _, _, _⟩) (v := ?_) rfl (by kernel_rfl) (by kernel_rfl) (by kernel_rfl) (fun _ _ _ h => h) (by rfl) ?_ HB8.out ?_
  rotate_left
  · intro W hW; have hq := HK.out W hW; go_simp; with_reducible rfl
  simp only [Act.put, List.setIfInBounds_toArray, List.set_cons_zero, List.set_cons_succ]
  refine take_in (i := 5) (oi := ⟨_, _, _, _, _, _⟩) (v := ?_) rfl (by kernel_rfl) (by kernel_rfl) (by kernel_rfl) (fun _ _ _ h => h) (by rfl) ?_ HB8.out ?_
  rotate_left
  · intro W hW; have hq := HK.out W hW; go_simp; with_reducible rfl
  simp only [Act.put, List.setIfInBounds_toArray, List.set_cons_zero, List.set_cons_succ]
  refine take_in (i := 6) (oi := ⟨_, _, _, _, _, _⟩) (v := ?_) rfl (by kernel_rfl) (by kernel_rfl) (by kernel_rfl) (fun _ _ _ h => h) (by rfl) ?_ HB8.out ?_
  rotate_left
  · intro W hW; have hq := HK.out W hW; go_simp; with_reducible rfl
  simp only [Act.put, List.setIfInBounds_toArray, List.set_cons_zero, List.set_cons_succ]
  refine take_in (i := 7) (oi := ⟨_, _, _, _, _, _⟩) (v := ?_) rfl (by kernel_rfl) (by kernel_rfl) (by kernel_rfl) (fun _ _ _ h => h) (by rfl) ?_ HB8.out ?_
  rotate_left
  · intro W hW; have hq := HK.out W hW; go_simp; with_reducible rfl
  simp only [Act.put, List.setIfInBounds_toArray, List.set_cons_zero, List.set_cons_succ]
  refine take_in (i := 8) (oi := ⟨_, _, _, _, _, _⟩) (v := ?_) rfl (by kernel_rfl) (by kernel_rfl) (by kernel_rfl) (fun _ _ _ h => h) (by rfl) ?_ HB8.out ?_
  rotate_left
  · intro W hW; have hq := HK.out W hW; go_simp; with_reducible rfl
  simp only [Act.put, List.setIfInBounds_toArray, List.set_cons_zero, List.set_cons_succ]
  refine take_in (i := 10) (oi := ⟨_, _, _, _, _, _⟩) (v := ?_) rfl (by kernel_rfl) (by kernel_rfl) (by kernel_rfl) (fun _ _ _ h => h) (by rfl) ?_ HB8.out ?_
  rotate_left
  · intro W hW; have hq := HK.out W hW; go_simp; with_reducible rfl
  simp only [Act.put, List.setIfInBounds_toArray, List.set_cons_zero, List.set_cons_succ]
  refine take_in (i := 13) (oi := ⟨_, _, _, _, _, _⟩) (v := ?_) rfl (by kernel_rfl) (by kernel_rfl) (by kernel_rfl) (fun _ _ _ h => h) (by rfl) ?_ HB8.out ?_
  rotate_left
  · intro W hW; have hq := HK.out W hW; go_simp; with_reducible rfl
  simp only [Act.put, List.setIfInBounds_toArray, List.set_cons_zero, List.set_cons_succ]
  refine take_in (i := 14) (oi := ⟨_, _, _, _, _, _⟩) (v := ?_) rfl (by kernel_rfl) (by kernel_rfl) (by kernel_rfl) (fun _ _ _ h => h) (by rfl) ?_ HB8.out ?_
  rotate_left
  · intro W hW; have hq := HK.out W hW; go_simp; with_reducible rfl
  simp only [Act.put, List.setIfInBounds_toArray, List.set_cons_zero, List.set_cons_succ]
  refine take_in (i := 15) (oi := ⟨_, _, _, _, _, _⟩) (v := ?_) rfl (by kernel_rfl) (by kernel_rfl) (by kernel_rfl) (fun _ _ _ h => h) (by rfl) ?_ HB8.out ?_
  rotate_left
  · intro W hW; have hq := HK.out W hW; go_simp; with_reducible rfl
  simp only [Act.put, List.setIfInBounds_toArray, List.set_cons_zero, List.set_cons_succ]
  refine wpAnyH_ready (rs := [9]) (by kernel_rfl) (by simp) ?_
  refine AllReadyH.cons (o := ⟨_, _, _, _, _, _⟩) rfl (fun K hK => ?_) AllReadyH.nil
  go_simp
  refine (name_c a d ha hd _).mono ?_
  rw [← HM1.out]
  rintro e w9 ⟨rfl, hb9⟩
  have HB9 := Lib.hid (HB8.out.trans (hb9.mono HB8.out.size)); clear hb9
  refine hK.out _ _ HB9.out (fun _ => ?_)
  clear hK K
  refine wpAnyH_ready (rs := [11]) (by kernel_rfl) (by simp) ?_
  refine AllReadyH.cons (o := ⟨_, _, _, _, _, _⟩) rfl (fun K hK => ?_) AllReadyH.nil
  go_simp
  refine (name_c b c hb hc _).mono ?_
  rw [← HM2.out]
  rintro e w10 ⟨rfl, hb10⟩
  have HB10 := Lib.hid (HB9.out.trans (hb10.mono HB9.out.size)); clear hb10
  refine hK.out _ _ HB10.out (fun _ => ?_)
  clear hK K
  refine take_in (i := 12) (oi := ⟨_, _, _, _, _, _⟩) (v := ?_) rfl (by kernel_rfl) (by kernel_rfl) (by kernel_rfl) (fun _ _ _ h => h) (by rfl) ?_ HB10.out ?_
  rotate_left
  · intro W hW; go_simp; with_reducible rfl
  simp only [Act.put, List.setIfInBounds_toArray, List.set_cons_zero, List.set_cons_succ]
  refine take_in (i := 16) (oi := ⟨_, _, _, _, _, _⟩) (v := ?_) rfl (by kernel_rfl) (by kernel_rfl) (by kernel_rfl) (fun _ _ _ h => h) (by rfl) ?_ HB10.out ?_
  rotate_left
  · intro W hW; go_simp; with_reducible rfl
  simp only [Act.put, List.setIfInBounds_toArray, List.set_cons_zero, List.set_cons_succ]
  refine take_in (i := 17) (oi := ⟨_, _, _, _, _, _⟩) (v := ?_) rfl (by kernel_rfl) (by kernel_rfl) (by kernel_rfl) (fun _ _ _ h => h) (by rfl) ?_ HB10.out ?_
  rotate_left
  · intro W hW; go_simp; with_reducible rfl
  simp only [Act.put, List.setIfInBounds_toArray, List.set_cons_zero, List.set_cons_succ]
  refine wpAnyH_done (by kernel_rfl) ?_ _
  go_wp2
  have HBTH : Hid ((withinV a d b c && withinV b c a d) = v) := Lib.hid (by
    rw [HV.out]
    unfold withinV
    rw [← within_both a b ha hb, ← within_both d c hd hc]
    cases within a b <;> cases within b a <;> cases within d c <;> cases within c d <;> rfl)
  clear hv1
  cases hx : withinV a d b c with
  | true =>
    have HX := Lib.hid hx; clear hx
    obtain ⟨y, hy⟩ : ∃ y, y = withinV b c a d := ⟨_, rfl⟩
    have HY := Lib.hid hy
    have hyv : y = v := by have := HBTH.out; rw [HX.out, ← hy] at this; simpa using this
    subst hyv
    have hle : cnt a + cnt d ≤ cnt b + cnt c := by
      have h := HX.out
      unfold withinV at h
      rw [Bool.and_eq_true] at h
      have h1 := cnt_within a b ha hb h.1
      have h2 := cnt_within d c hd hc h.2
      omega
    obtain ⟨k1, hk1⟩ : ∃ k1, k1 = cnt a + cnt d := ⟨_, rfl⟩
    obtain ⟨k2, hk2⟩ : ∃ k2, k2 = cnt b + cnt c := ⟨_, rfl⟩
    rw [← hk1, ← hk2] at hle
    have HK1 := Lib.hid hk1; have HK2 := Lib.hid hk2; have HLE := Lib.hid hle
    clear hy hk1 hk2 hle
    refine wp_region_held_drew (S := fun W' => Below w7.heap.size w7 W') (by kernel_rfl) HB10.out.drew (fun hHeld => ?_)
    generalize w10.drew = w11 at hHeld ⊢
    have HB11 : Hid (Below w7.heap.size w7 w11) := hHeld
    clear hHeld
    refine take_in (i := 0) (oi := ⟨_, _, _, _, _, _⟩) (v := ?_) rfl (by kernel_rfl) (by kernel_rfl) (by kernel_rfl) (fun _ _ _ h => h) (by rfl) ?_ HB11.out ?_
    rotate_left
    · intro W hW; have hq := HK.out W hW; go_simp; with_reducible rfl
    simp only [Act.put, List.setIfInBounds_toArray, List.set_cons_zero, List.set_cons_succ]
    refine take_in (i := 1) (oi := ⟨_, _, _, _, _, _⟩) (v := ?_) rfl (by kernel_rfl) (by kernel_rfl) (by kernel_rfl) (fun _ _ _ h => h) (by rfl) ?_ HB11.out ?_
    rotate_left
    · intro W hW; have hq := HK.out W hW; go_simp; with_reducible rfl
    simp only [Act.put, List.setIfInBounds_toArray, List.set_cons_zero, List.set_cons_succ]
    refine take_in (i := 8) (oi := ⟨_, _, _, _, _, _⟩) (v := ?_) rfl (by kernel_rfl) (by kernel_rfl) (by kernel_rfl) (fun _ _ _ h => h) (by rfl) ?_ HB11.out ?_
    rotate_left
    · intro W hW; have hq := HK.out W hW; go_simp; with_reducible rfl
    simp only [Act.put, List.setIfInBounds_toArray, List.set_cons_zero, List.set_cons_succ]
    refine take_in (i := 9) (oi := ⟨_, _, _, _, _, _⟩) (v := ?_) rfl (by kernel_rfl) (by kernel_rfl) (by kernel_rfl) (fun _ _ _ h => h) (by rfl) ?_ HB11.out ?_
    rotate_left
    · intro W hW; have hq := HK.out W hW; go_simp; with_reducible rfl
    simp only [Act.put, List.setIfInBounds_toArray, List.set_cons_zero, List.set_cons_succ]
    refine take_in (i := 10) (oi := ⟨_, _, _, _, _, _⟩) (v := ?_) rfl (by kernel_rfl) (by kernel_rfl) (by kernel_rfl) (fun _ _ _ h => h) (by rfl) ?_ HB11.out ?_
    rotate_left
    · intro W hW; have hq := HK.out W hW; go_simp; with_reducible rfl
    simp only [Act.put, List.setIfInBounds_toArray, List.set_cons_zero, List.set_cons_succ]
    refine wpAnyH_ready (rs := [2]) (by kernel_rfl) (by simp) ?_
    refine AllReadyH.cons (o := ⟨_, _, _, _, _, _⟩) rfl (fun K hK => ?_) AllReadyH.nil
    go_simp
    refine (within_c a d ha hd b c hb hc _).mono ?_
    rw [HX.out]
    rintro e w12 ⟨rfl, hb12⟩
    have HB12 := Lib.hid (HB11.out.trans (hb12.mono HB11.out.size)); clear hb12
    refine hK.out _ _ HB12.out (fun _ => ?_)
    clear hK K
    refine take_in (i := 3) (oi := ⟨_, _, _, _, _, _⟩) (v := ?_) rfl (by kernel_rfl) (by kernel_rfl) (by kernel_rfl) (fun _ _ _ h => h) (by rfl) ?_ HB12.out ?_
    rotate_left
    · intro W hW; have hq := HK.out W hW; go_simp; with_reducible rfl
    simp only [Act.put, List.setIfInBounds_toArray, List.set_cons_zero, List.set_cons_succ]
    refine take_in (i := 4) (oi := ⟨_, _, _, _, _, _⟩) (v := ?_) rfl (by kernel_rfl) (by kernel_rfl) (by kernel_rfl) (fun _ _ _ h => h) (by rfl) ?_ HB12.out ?_
    rotate_left
    · intro W hW; have hq := HK.out W hW; go_simp; with_reducible rfl
    simp only [Act.put, List.setIfInBounds_toArray, List.set_cons_zero, List.set_cons_succ]
    refine take_in (i := 5) (oi := ⟨_, _, _, _, _, _⟩) (v := ?_) rfl (by kernel_rfl) (by kernel_rfl) (by kernel_rfl) (fun _ _ _ h => h) (by rfl) ?_ HB12.out ?_
    rotate_left
    · intro W hW; have hq := HK.out W hW; go_simp; with_reducible rfl
    simp only [Act.put, List.setIfInBounds_toArray, List.set_cons_zero, List.set_cons_succ]
    refine wpAnyH_ready (rs := [6]) (by kernel_rfl) (by simp) ?_
    refine AllReadyH.cons (o := ⟨_, _, _, _, _, _⟩) rfl (fun K hK => ?_) AllReadyH.nil
    go_simp
    refine (within_c b c hb hc a d ha hd _).mono ?_
    rw [← HY.out]
    rintro e w13 ⟨rfl, hb13⟩
    have HB13 := Lib.hid (HB12.out.trans (hb13.mono HB12.out.size)); clear hb13
    refine hK.out _ _ HB13.out (fun _ => ?_)
    clear hK K
    refine take_in (i := 7) (oi := ⟨_, _, _, _, _, _⟩) (v := ?_) rfl (by kernel_rfl) (by kernel_rfl) (by kernel_rfl) (fun _ _ _ h => h) (by rfl) ?_ HB13.out ?_
    rotate_left
    · intro W hW; have hq := HK.out W hW; go_simp; with_reducible rfl
    simp only [Act.put, List.setIfInBounds_toArray, List.set_cons_zero, List.set_cons_succ]
    refine take_in (i := 11) (oi := ⟨_, _, _, _, _, _⟩) (v := ?_) rfl (by kernel_rfl) (by kernel_rfl) (by kernel_rfl) (fun _ _ _ h => h) (by rfl) ?_ HB13.out ?_
    rotate_left
    · intro W hW; have hq := HK.out W hW; go_simp; with_reducible rfl
    simp only [Act.put, List.setIfInBounds_toArray, List.set_cons_zero, List.set_cons_succ]
    refine take_in (i := 12) (oi := ⟨_, _, _, _, _, _⟩) (v := ?_) rfl (by kernel_rfl) (by kernel_rfl) (by kernel_rfl) (fun _ _ _ h => h) (by rfl) ?_ HB13.out ?_
    rotate_left
    · intro W hW; have hq := HK.out W hW; go_simp; with_reducible rfl
    simp only [Act.put, List.setIfInBounds_toArray, List.set_cons_zero, List.set_cons_succ]
    refine take_in (i := 13) (oi := ⟨_, _, _, _, _, _⟩) (v := ?_) rfl (by kernel_rfl) (by kernel_rfl) (by kernel_rfl) (fun _ _ _ h => h) (by rfl) ?_ HB13.out ?_
    rotate_left
    · intro W hW; have hq := HK.out W hW; go_simp; with_reducible rfl
    simp only [Act.put, List.setIfInBounds_toArray, List.set_cons_zero, List.set_cons_succ]
    refine take_in (i := 14) (oi := ⟨_, _, _, _, _, _⟩) (v := ?_) rfl (by kernel_rfl) (by kernel_rfl) (by kernel_rfl) (fun _ _ _ h => h) (by rfl) ?_ HB13.out ?_
    rotate_left
    · intro W hW; have hq := HK.out W hW; go_simp; with_reducible rfl
    simp only [Act.put, List.setIfInBounds_toArray, List.set_cons_zero, List.set_cons_succ]
    refine wpAnyH_ready (rs := [15]) (by kernel_rfl) (by simp) ?_
    refine AllReadyH.cons (o := ⟨_, _, _, _, _, _⟩) rfl (fun K hK => ?_) AllReadyH.nil
    go_simp
    refine (within_c a d ha hd b c hb hc _).mono ?_
    rw [HX.out]
    rintro e w14 ⟨rfl, hb14⟩
    have HB14 := Lib.hid (HB13.out.trans (hb14.mono HB13.out.size)); clear hb14
    refine hK.out _ _ HB14.out (fun _ => ?_)
    clear hK K
    refine take_in (i := 16) (oi := ⟨_, _, _, _, _, _⟩) (v := ?_) rfl (by kernel_rfl) (by kernel_rfl) (by kernel_rfl) (fun _ _ _ h => h) (by rfl) ?_ HB14.out ?_
    rotate_left
    · intro W hW; have hq := HK.out W hW; go_simp; with_reducible rfl
    simp only [Act.put, List.setIfInBounds_toArray, List.set_cons_zero, List.set_cons_succ]
    refine take_in (i := 17) (oi := ⟨_, _, _, _, _, _⟩) (v := ?_) rfl (by kernel_rfl) (by kernel_rfl) (by kernel_rfl) (fun _ _ _ h => h) (by rfl) ?_ HB14.out ?_
    rotate_left
    · intro W hW; have hq := HK.out W hW; go_simp; with_reducible rfl
    simp only [Act.put, List.setIfInBounds_toArray, List.set_cons_zero, List.set_cons_succ]
    refine take_in (i := 18) (oi := ⟨_, _, _, _, _, _⟩) (v := ?_) rfl (by kernel_rfl) (by kernel_rfl) (by kernel_rfl) (fun _ _ _ h => h) (by rfl) ?_ HB14.out ?_
    rotate_left
    · intro W hW; have hq := HK.out W hW; go_simp; with_reducible rfl
    simp only [Act.put, List.setIfInBounds_toArray, List.set_cons_zero, List.set_cons_succ]
    refine take_in (i := 20) (oi := ⟨_, _, _, _, _, _⟩) (v := ?_) rfl (by kernel_rfl) (by kernel_rfl) (by kernel_rfl) (fun _ _ _ h => h) (by rfl) ?_ HB14.out ?_
    rotate_left
    · intro W hW; have hq := HK.out W hW; go_simp; with_reducible rfl
    simp only [Act.put, List.setIfInBounds_toArray, List.set_cons_zero, List.set_cons_succ]
    refine wpAnyH_ready (rs := [19]) (by kernel_rfl) (by simp) ?_
    refine AllReadyH.cons (o := ⟨_, _, _, _, _, _⟩) rfl (fun K hK => ?_) AllReadyH.nil
    go_simp
    refine (size_c a d ha hd _).mono ?_
    rw [← HK1.out]
    rintro e w15 ⟨rfl, hb15⟩
    have HB15 := Lib.hid (HB14.out.trans (hb15.mono HB14.out.size)); clear hb15
    refine hK.out _ _ HB15.out (fun _ => ?_)
    clear hK K
    refine wpAnyH_ready (rs := [21]) (by kernel_rfl) (by simp) ?_
    refine AllReadyH.cons (o := ⟨_, _, _, _, _, _⟩) rfl (fun K hK => ?_) AllReadyH.nil
    go_simp
    refine (size_c b c hb hc _).mono ?_
    rw [← HK2.out]
    rintro e w16 ⟨rfl, hb16⟩
    have HB16 := Lib.hid (HB15.out.trans (hb16.mono HB15.out.size)); clear hb16
    refine hK.out _ _ HB16.out (fun _ => ?_)
    clear hK K
    refine take_in (i := 22) (oi := ⟨_, _, _, _, _, _⟩) (v := ?_) rfl (by kernel_rfl) (by kernel_rfl) (by kernel_rfl) (fun _ _ _ h => h) (by rfl) ?_ HB16.out ?_
    rotate_left
    · intro W hW; have hq := HK.out W hW; go_simp; with_reducible rfl
    simp only [Act.put, List.setIfInBounds_toArray, List.set_cons_zero, List.set_cons_succ]
    refine take_in (i := 23) (oi := ⟨_, _, _, _, _, _⟩) (v := ?_) rfl (by kernel_rfl) (by kernel_rfl) (by kernel_rfl) (fun _ _ _ h => h) (by rfl) ?_ HB16.out ?_
    rotate_left
    · intro W hW; have hq := HK.out W hW; go_simp; with_reducible rfl
    simp only [Act.put, List.setIfInBounds_toArray, List.set_cons_zero, List.set_cons_succ]
    refine take_in (i := 24) (oi := ⟨_, _, _, _, _, _⟩) (v := ?_) rfl (by kernel_rfl) (by kernel_rfl) (by kernel_rfl) (fun _ _ _ h => h) (by rfl) ?_ HB16.out ?_
    rotate_left
    · intro W hW; have hq := HK.out W hW; go_simp; with_reducible rfl
    simp only [Act.put, List.setIfInBounds_toArray, List.set_cons_zero, List.set_cons_succ]
    refine take_in (i := 25) (oi := ⟨_, _, _, _, _, _⟩) (v := ?_) rfl (by kernel_rfl) (by kernel_rfl) (by kernel_rfl) (fun _ _ _ h => h) (by rfl) ?_ HB16.out ?_
    rotate_left
    · intro W hW; have hq := HK.out W hW; go_simp; with_reducible rfl
    simp only [Act.put, List.setIfInBounds_toArray, List.set_cons_zero, List.set_cons_succ]
    refine wpAnyH_done (by kernel_rfl) ?_ _
    go_wp2
    go_ret
    exact ⟨ret_bool (decide_eq_true HLE.out), HB.out.trans (HB16.out.mono HB.out.size)⟩
  | false =>
    have HX := Lib.hid hx; clear hx
    have hvf : v = false := by have := HBTH.out; rw [HX.out] at this; simpa using this.symm
    subst hvf
    refine wp_region_held_drew (S := fun W' => Below w7.heap.size w7 W') (by kernel_rfl) HB10.out.drew (fun hHeld => ?_)
    generalize w10.drew = w11 at hHeld ⊢
    have HB11 : Hid (Below w7.heap.size w7 w11) := hHeld
    clear hHeld
    refine take_in (i := 0) (oi := ⟨_, _, _, _, _, _⟩) (v := ?_) rfl (by kernel_rfl) (by kernel_rfl) (by kernel_rfl) (fun _ _ _ h => h) (by rfl) ?_ HB11.out ?_
    rotate_left
    · intro W hW; have hq := HK.out W hW; go_simp; with_reducible rfl
    simp only [Act.put, List.setIfInBounds_toArray, List.set_cons_zero, List.set_cons_succ]
    refine take_in (i := 1) (oi := ⟨_, _, _, _, _, _⟩) (v := ?_) rfl (by kernel_rfl) (by kernel_rfl) (by kernel_rfl) (fun _ _ _ h => h) (by rfl) ?_ HB11.out ?_
    rotate_left
    · intro W hW; have hq := HK.out W hW; go_simp; with_reducible rfl
    simp only [Act.put, List.setIfInBounds_toArray, List.set_cons_zero, List.set_cons_succ]
    refine take_in (i := 8) (oi := ⟨_, _, _, _, _, _⟩) (v := ?_) rfl (by kernel_rfl) (by kernel_rfl) (by kernel_rfl) (fun _ _ _ h => h) (by rfl) ?_ HB11.out ?_
    rotate_left
    · intro W hW; have hq := HK.out W hW; go_simp; with_reducible rfl
    simp only [Act.put, List.setIfInBounds_toArray, List.set_cons_zero, List.set_cons_succ]
    refine take_in (i := 9) (oi := ⟨_, _, _, _, _, _⟩) (v := ?_) rfl (by kernel_rfl) (by kernel_rfl) (by kernel_rfl) (fun _ _ _ h => h) (by rfl) ?_ HB11.out ?_
    rotate_left
    · intro W hW; have hq := HK.out W hW; go_simp; with_reducible rfl
    simp only [Act.put, List.setIfInBounds_toArray, List.set_cons_zero, List.set_cons_succ]
    refine take_in (i := 10) (oi := ⟨_, _, _, _, _, _⟩) (v := ?_) rfl (by kernel_rfl) (by kernel_rfl) (by kernel_rfl) (fun _ _ _ h => h) (by rfl) ?_ HB11.out ?_
    rotate_left
    · intro W hW; have hq := HK.out W hW; go_simp; with_reducible rfl
    simp only [Act.put, List.setIfInBounds_toArray, List.set_cons_zero, List.set_cons_succ]
    refine wpAnyH_ready (rs := [2]) (by kernel_rfl) (by simp) ?_
    refine AllReadyH.cons (o := ⟨_, _, _, _, _, _⟩) rfl (fun K hK => ?_) AllReadyH.nil
    go_simp
    refine (within_c a d ha hd b c hb hc _).mono ?_
    rw [HX.out]
    rintro e w12 ⟨rfl, hb12⟩
    have HB12 := Lib.hid (HB11.out.trans (hb12.mono HB11.out.size)); clear hb12
    refine hK.out _ _ HB12.out (fun _ => ?_)
    clear hK K
    refine take_in (i := 3) (oi := ⟨_, _, _, _, _, _⟩) (v := ?_) rfl (by kernel_rfl) (by kernel_rfl) (by kernel_rfl) (fun _ _ _ h => h) (by rfl) ?_ HB12.out ?_
    rotate_left
    · intro W hW; have hq := HK.out W hW; go_simp; with_reducible rfl
    simp only [Act.put, List.setIfInBounds_toArray, List.set_cons_zero, List.set_cons_succ]
    refine skip_in (i := 4) (oi := ⟨_, _, _, _, _, _⟩) rfl (by kernel_rfl) (by kernel_rfl) (by kernel_rfl) (fun _ _ _ h => h) (by rfl) HB12.out ?_
    simp only [Act.put, List.setIfInBounds_toArray, List.set_cons_zero, List.set_cons_succ]
    refine skip_in (i := 5) (oi := ⟨_, _, _, _, _, _⟩) rfl (by kernel_rfl) (by kernel_rfl) (by kernel_rfl) (fun _ _ _ h => h) (by rfl) HB12.out ?_
    simp only [Act.put, List.setIfInBounds_toArray, List.set_cons_zero, List.set_cons_succ]
    refine skip_in (i := 6) (oi := ⟨_, _, _, _, _, _⟩) rfl (by kernel_rfl) (by kernel_rfl) (by kernel_rfl) (fun _ _ _ h => h) (by rfl) HB12.out ?_
    simp only [Act.put, List.setIfInBounds_toArray, List.set_cons_zero, List.set_cons_succ]
    refine take_in (i := 7) (oi := ⟨_, _, _, _, _, _⟩) (v := ?_) rfl (by kernel_rfl) (by kernel_rfl) (by kernel_rfl) (fun _ _ _ h => h) (by rfl) ?_ HB12.out ?_
    rotate_left
    · intro W hW; have hq := HK.out W hW; go_simp; with_reducible rfl
    simp only [Act.put, List.setIfInBounds_toArray, List.set_cons_zero, List.set_cons_succ]
    refine take_in (i := 11) (oi := ⟨_, _, _, _, _, _⟩) (v := ?_) rfl (by kernel_rfl) (by kernel_rfl) (by kernel_rfl) (fun _ _ _ h => h) (by rfl) ?_ HB12.out ?_
    rotate_left
    · intro W hW; have hq := HK.out W hW; go_simp; with_reducible rfl
    simp only [Act.put, List.setIfInBounds_toArray, List.set_cons_zero, List.set_cons_succ]
    refine take_in (i := 12) (oi := ⟨_, _, _, _, _, _⟩) (v := ?_) rfl (by kernel_rfl) (by kernel_rfl) (by kernel_rfl) (fun _ _ _ h => h) (by rfl) ?_ HB12.out ?_
    rotate_left
    · intro W hW; have hq := HK.out W hW; go_simp; with_reducible rfl
    simp only [Act.put, List.setIfInBounds_toArray, List.set_cons_zero, List.set_cons_succ]
    refine take_in (i := 13) (oi := ⟨_, _, _, _, _, _⟩) (v := ?_) rfl (by kernel_rfl) (by kernel_rfl) (by kernel_rfl) (fun _ _ _ h => h) (by rfl) ?_ HB12.out ?_
    rotate_left
    · intro W hW; have hq := HK.out W hW; go_simp; with_reducible rfl
    simp only [Act.put, List.setIfInBounds_toArray, List.set_cons_zero, List.set_cons_succ]
    refine take_in (i := 14) (oi := ⟨_, _, _, _, _, _⟩) (v := ?_) rfl (by kernel_rfl) (by kernel_rfl) (by kernel_rfl) (fun _ _ _ h => h) (by rfl) ?_ HB12.out ?_
    rotate_left
    · intro W hW; have hq := HK.out W hW; go_simp; with_reducible rfl
    simp only [Act.put, List.setIfInBounds_toArray, List.set_cons_zero, List.set_cons_succ]
    refine wpAnyH_ready (rs := [15]) (by kernel_rfl) (by simp) ?_
    refine AllReadyH.cons (o := ⟨_, _, _, _, _, _⟩) rfl (fun K hK => ?_) AllReadyH.nil
    go_simp
    refine (within_c a d ha hd b c hb hc _).mono ?_
    rw [HX.out]
    rintro e w13 ⟨rfl, hb13⟩
    have HB13 := Lib.hid (HB12.out.trans (hb13.mono HB12.out.size)); clear hb13
    refine hK.out _ _ HB13.out (fun _ => ?_)
    clear hK K
    refine take_in (i := 16) (oi := ⟨_, _, _, _, _, _⟩) (v := ?_) rfl (by kernel_rfl) (by kernel_rfl) (by kernel_rfl) (fun _ _ _ h => h) (by rfl) ?_ HB13.out ?_
    rotate_left
    · intro W hW; have hq := HK.out W hW; go_simp; with_reducible rfl
    simp only [Act.put, List.setIfInBounds_toArray, List.set_cons_zero, List.set_cons_succ]
    refine take_in (i := 17) (oi := ⟨_, _, _, _, _, _⟩) (v := ?_) rfl (by kernel_rfl) (by kernel_rfl) (by kernel_rfl) (fun _ _ _ h => h) (by rfl) ?_ HB13.out ?_
    rotate_left
    · intro W hW; have hq := HK.out W hW; go_simp; with_reducible rfl
    simp only [Act.put, List.setIfInBounds_toArray, List.set_cons_zero, List.set_cons_succ]
    refine skip_in (i := 18) (oi := ⟨_, _, _, _, _, _⟩) rfl (by kernel_rfl) (by kernel_rfl) (by kernel_rfl) (fun _ _ _ h => h) (by rfl) HB13.out ?_
    simp only [Act.put, List.setIfInBounds_toArray, List.set_cons_zero, List.set_cons_succ]
    refine skip_in (i := 19) (oi := ⟨_, _, _, _, _, _⟩) rfl (by kernel_rfl) (by kernel_rfl) (by kernel_rfl) (fun _ _ _ h => h) (by rfl) HB13.out ?_
    simp only [Act.put, List.setIfInBounds_toArray, List.set_cons_zero, List.set_cons_succ]
    refine skip_in (i := 20) (oi := ⟨_, _, _, _, _, _⟩) rfl (by kernel_rfl) (by kernel_rfl) (by kernel_rfl) (fun _ _ _ h => h) (by rfl) HB13.out ?_
    simp only [Act.put, List.setIfInBounds_toArray, List.set_cons_zero, List.set_cons_succ]
    refine skip_in (i := 21) (oi := ⟨_, _, _, _, _, _⟩) rfl (by kernel_rfl) (by kernel_rfl) (by kernel_rfl) (fun _ _ _ h => h) (by rfl) HB13.out ?_
    simp only [Act.put, List.setIfInBounds_toArray, List.set_cons_zero, List.set_cons_succ]
    refine skip_in (i := 22) (oi := ⟨_, _, _, _, _, _⟩) rfl (by kernel_rfl) (by kernel_rfl) (by kernel_rfl) (fun _ _ _ h => h) (by rfl) HB13.out ?_
    simp only [Act.put, List.setIfInBounds_toArray, List.set_cons_zero, List.set_cons_succ]
    refine take_in (i := 23) (oi := ⟨_, _, _, _, _, _⟩) (v := ?_) rfl (by kernel_rfl) (by kernel_rfl) (by kernel_rfl) (fun _ _ _ h => h) (by rfl) ?_ HB13.out ?_
    rotate_left
    · intro W hW; have hq := HK.out W hW; go_simp; with_reducible rfl
    simp only [Act.put, List.setIfInBounds_toArray, List.set_cons_zero, List.set_cons_succ]
    refine take_in (i := 24) (oi := ⟨_, _, _, _, _, _⟩) (v := ?_) rfl (by kernel_rfl) (by kernel_rfl) (by kernel_rfl) (fun _ _ _ h => h) (by rfl) ?_ HB13.out ?_
    rotate_left
    · intro W hW; have hq := HK.out W hW; go_simp; with_reducible rfl
    simp only [Act.put, List.setIfInBounds_toArray, List.set_cons_zero, List.set_cons_succ]
    refine take_in (i := 25) (oi := ⟨_, _, _, _, _, _⟩) (v := ?_) rfl (by kernel_rfl) (by kernel_rfl) (by kernel_rfl) (fun _ _ _ h => h) (by rfl) ?_ HB13.out ?_
    rotate_left
    · intro W hW; have hq := HK.out W hW; go_simp; with_reducible rfl
    simp only [Act.put, List.setIfInBounds_toArray, List.set_cons_zero, List.set_cons_succ]
    refine wpAnyH_done (by kernel_rfl) ?_ _
    go_wp2
    go_ret
    exact ⟨rfl, HB.out.trans (HB13.out.mono HB.out.size)⟩

set_option maxRecDepth 100000 in
theorem walk (w : World) (a : Int) (_ : (Lit.int .i64 a).wf = true) (d : Int) (_ : (Lit.int .i64 d).wf = true) (b : Int) (_ : (Lit.int .i64 b).wf = true) (c : Int) (_ : (Lit.int .i64 c).wf = true) :
    Calls Try.prog 7 #[vw a d, vw b c] w fun e w' => e = .returned (.bool true) ∧ Below w.heap.size w w' := by
  by_cases h : rightB a d = true ∧ rightB b c = true
  · obtain ⟨a, d, rfl, rfl, ha, hd⟩ := right_nat h.1
    obtain ⟨b, c, rfl, rfl, hb, hc⟩ := right_nat h.2
    exact right w a d b c ha hd hb hc
  · have heq := eq_view
    have hn : rightB a d = false ∨ rightB a d = true ∧ rightB b c = false := by
      cases h1 : rightB a d
      · exact Or.inl rfl
      · cases h2 : rightB b c
        · exact Or.inr ⟨rfl, rfl⟩
        · exact absurd ⟨h1, h2⟩ h
    have HH := Lib.hid hn; clear hn h
    unfold vw
    go_enter Try.func7, Try.ntmps7
    go_wp2_with fail
    have V1 := Lib.hid (show ((w.alloc (.cells #[.int .i64 a, .int .i64 d] 23)).alloc (.cells #[.int .i64 b, .int .i64 c] 23)).heap[w.heap.size]? = some (.cells #[.int .i64 a, .int .i64 d] 23) from hbe (hat _ _ _ rfl))
    have V2 := Lib.hid (show ((w.alloc (.cells #[.int .i64 a, .int .i64 d] 23)).alloc (.cells #[.int .i64 b, .int .i64 c] 23)).heap[w.heap.size + 1]? = some (.cells #[.int .i64 b, .int .i64 c] 23) from hat _ _ _ (by simp))
    have HB := Lib.hid (bal (bal (Below.refl w.heap.size w) (Nat.le_refl _) (.cells #[.int .i64 a, .int .i64 d] 23)) (Nat.le_refl _) (.cells #[.int .i64 b, .int .i64 c] 23))
    have hs : w.heap.size + 1 < ((w.alloc (.cells #[.int .i64 a, .int .i64 d] 23)).alloc (.cells #[.int .i64 b, .int .i64 c] 23)).heap.size := by simp
    generalize ((w.alloc (.cells #[.int .i64 a, .int .i64 d] 23)).alloc (.cells #[.int .i64 b, .int .i64 c] 23)) = w1 at V1 V2 HB hs ⊢
    refine (alive_c _).mono ?_
    rintro e w2 ⟨rfl, hb2⟩
    have V1 := Lib.hid ((hb2.block _ (by omega)).trans V1.out)
    have V2 := Lib.hid ((hb2.block _ hs).trans V2.out)
    have hs := Nat.lt_of_lt_of_le hs hb2.size
    have HB := Lib.hid (HB.out.trans (hb2.mono HB.out.size)); clear hb2
    have a0 : w2.cell? ⟨w.heap.size, 0, none⟩ = some (.int .i64 a) := by rw [cell_of_row _ _ _ _ _ _ V1.out]; rfl
    have a1 : w2.cell? ⟨w.heap.size, 1, none⟩ = some (.int .i64 d) := by rw [cell_of_row _ _ _ _ _ _ V1.out]; rfl
    go_wp2_with fail
    refine (right_c a d _).mono ?_
    rintro e w3 ⟨rfl, hb3⟩
    have V2 := Lib.hid ((hb3.block _ hs).trans V2.out)
    have HB := Lib.hid (HB.out.trans (hb3.mono HB.out.size)); clear hb3 a0 a1
    rcases HH.out with h1 | ⟨h1, h2⟩
    · rw [h1]
      go_wp2
      go_ret
      exact ⟨rfl, HB.out⟩
    · rw [h1]
      have H2 := Lib.hid h2; clear h2
      have b0 : w3.cell? ⟨w.heap.size + 1, 0, none⟩ = some (.int .i64 b) := by rw [cell_of_row _ _ _ _ _ _ V2.out]; rfl
      have b1 : w3.cell? ⟨w.heap.size + 1, 1, none⟩ = some (.int .i64 c) := by rw [cell_of_row _ _ _ _ _ _ V2.out]; rfl
      go_wp2_with fail
      refine (right_c b c _).mono ?_
      rw [H2.out]
      rintro e w4 ⟨rfl, hb4⟩
      have HB := Lib.hid (HB.out.trans (hb4.mono HB.out.size)); clear hb4 b0 b1
      go_wp2
      go_ret
      exact ⟨rfl, HB.out⟩
end Go.Proofs.Ytjmbgajaflcbaaa.changeBack
