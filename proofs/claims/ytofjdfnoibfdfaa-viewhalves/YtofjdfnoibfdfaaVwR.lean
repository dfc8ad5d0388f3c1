/- What the document's In, Members and Less of layer 5 answer: contracts by walks. -/
import Derived.Test.YtofjdfnoibfdfaaChgW
import Derived.Test.YtofjdfnoibfdfaaVwP
namespace Go.Proofs.Ytofjdfnoibfdfaa
open Go.RowKit
open Chg Vw

theorem in_no_r (a d n : Int) (hn : n < 0 ∨ 5 < n) (w : World) : Calls Try.prog 15 #[vw a d, .int .i64 n] w fun e w' => e = .returned (.bool false) ∧ Below w.heap.size w w' := by
  unfold vw
  rcases hn with h | h
  · go_enter Try.func15, Try.ntmps15
    go_wp2
    go_ret
    exact ⟨rfl, bal (Below.refl _ _) (Nat.le_refl _) _⟩
  · have h2 : ¬ n < 0 := by omega
    go_enter Try.func15, Try.ntmps15
    go_wp2
    go_ret
    exact ⟨rfl, bal (Below.refl _ _) (Nat.le_refl _) _⟩
theorem in_r (a d : Nat) (ha : a < 64) (hd : d < 64) (k : Nat) (hk : k < 6) (w : World) : Calls Try.prog 15 #[vw a d, .int .i64 (k : Int)] w fun e w' => e = .returned (.bool (inF a d k)) ∧ Below w.heap.size w w' := by
  have h1 : ¬ (k : Int) < 0 := by omega
  have h2 : ¬ (5 : Int) < (k : Int) := by omega
  unfold vw
  go_enter Try.func15, Try.ntmps15
  go_wp2_with fail
  refine (has_r a d ha hd k (by omega) _).mono ?_
  rintro e w2 ⟨rfl, hb2⟩
  have HB := Lib.hid ((bal (Below.refl w.heap.size w) (Nat.le_refl _) _).trans (hb2.mono (by simp))); clear hb2
  have HF : Hid (inF a d k = (a.testBit k && !d.testBit k)) := Lib.hid rfl
  cases hx : a.testBit k
  all_goals
    rw [hx] at HF
    clear hx
    go_wp2
    go_ret
    exact ⟨ret_bool (by rw [HF.out]; simp), HB.out⟩
theorem in_any_r (a d : Nat) (ha : a < 64) (hd : d < 64) (n : Int) (w : World) : Calls Try.prog 15 #[vw a d, .int .i64 n] w fun e w' => e = .returned (.bool (inN a d n)) ∧ Below w.heap.size w w' := by
  by_cases h : 0 ≤ n ∧ n ≤ 5
  · obtain ⟨k, rfl⟩ : ∃ k : Nat, n = (k : Int) := ⟨n.toNat, by omega⟩
    have := in_r a d ha hd k (by omega) w
    rwa [show inF a d k = inN a d (k : Int) from by unfold inN; rw [decide_eq_true h]; simp] at this
  · have := in_no_r a d n (by omega) w
    rwa [show false = inN a d n from by unfold inN; rw [decide_eq_false h]; simp] at this
theorem members_r (a d : Nat) (ha : a < 64) (hd : d < 64) (w : World) : Calls Try.prog 18 #[vw a d] w (RetOwnI w w.heap.size (members a d)) := by
  unfold vw
  go_enter Try.func18, Try.ntmps18
  go_wp2
  go_loopw [3, 4] (fun x i wr => ∃ (A : Option Addr) (n c k : Nat), x = .slice A n c ∧ i = .int .i64 k ∧ k ≤ 6 ∧ OwnI wr (w.heap.size + 1) A n c (memK a d k) ∧ Vx wr w.heap.size a d ∧ w.heap.size + 1 ≤ wr.heap.size ∧ Below w.heap.size w wr) (fun _ i _ => 6 - (intOf i).toNat)
  case atStart => exact ⟨_, 0, 0, 0, rfl, rfl, by omega, ownI_at _ _ _ [] (by simp) (by simp) (by simp), hbe (hat _ _ _ rfl), by simp, bal (bal (Below.refl _ _) (Nat.le_refl _) _) (Nat.le_refl _) _⟩
  case round =>
    obtain ⟨A, n, c, k, rfl, rfl, hk, ho, hv, hs, hb⟩ := hrel
    have hn6 : n ≤ 6 := by rw [ho.1]; exact Nat.le_trans (memK_len a d k) hk
    have HO := Lib.hid ho; have HV := Lib.hid hv; have HB := Lib.hid hb
    clear ho hv hb
    by_cases h : k < 6
    · have c0 := HV.out.c0; have c1 := HV.out.c1
      go_wp2_with fail
      refine (in_r a d ha hd k h _).mono ?_
      rintro e w2 ⟨rfl, hb2⟩
      have HO := Lib.hid (HO.out.below hb2 (Nat.le_refl _))
      have HV := Lib.hid (HV.out.below hb2 (by omega))
      have HB := Lib.hid (HB.out.trans (hb2.mono (by omega)))
      have hs2 := Nat.le_trans hs hb2.size
      clear hb2 c0 c1
      have HM : Hid (memK a d (k + 1) = memK a d k ++ if inF a d k then [(k : Int)] else []) := Lib.hid rfl
      cases hx : inF a d k with
      | false =>
        rw [hx] at HM
        clear hx
        go_wp2
        refine ⟨⟨A, n, c, k + 1, rfl, by go_num, by omega, ?_, HV.out, hs2, HB.out⟩, by simp [intOf]; omega⟩
        rw [HM.out]
        simpa using HO.out
      | true =>
        rw [hx] at HM
        clear hx
        go_wp2_with (at_builtin; refine wp_appI rfl (.tmp 13) (.tmp 15) rfl (w.heap.size + 1) A n c _ rfl (HO.out.alloc _) _ _ 1 1 [(k : Int)] rfl rfl (rdI_any w2 [(k : Int)]) (by omega) (by simp; omega) ?_; intro A3 c3 w3 ho3 hb3)
        have hs3 := hb3.size
        rw [World.size_alloc] at hs3
        refine ⟨⟨A3, n + 1, c3, k + 1, rfl, by go_num, by omega, ?_, Vx.below (hbe HV.out) hb3 (by omega), by omega, (bal HB.out (Nat.le_refl _) _).trans (hb3.mono (by omega))⟩, by simp [intOf]; omega⟩
        rw [HM.out]
        exact ho3
    · go_wp2
      go_ret
      obtain rfl : k = 6 := by omega
      exact ⟨A, n, c, rfl, HO.out.base (by omega), HB.out⟩
theorem less_r (u v : Nat × Nat) (hu : u.1 < 64 ∧ u.2 < 64) (hv : v.1 < 64 ∧ v.2 < 64) (w : World) : Calls Try.prog 21 #[vw u.1 u.2, vw v.1 v.2] w fun e w' => e = .returned (.bool (less u v)) ∧ Below w.heap.size w w' := by
  obtain ⟨a, d⟩ := u
  obtain ⟨b, c⟩ := v
  have ha : a < 64 := hu.1
  have hd : d < 64 := hu.2
  have hb : b < 64 := hv.1
  have hc : c < 64 := hv.2
  clear hu hv
  have HL : Hid (less (a, d) (b, c) = if cnt a + cnt d = cnt b + cnt c then decide (64 * a + d < 64 * b + c) else decide (cnt a + cnt d < cnt b + cnt c)) := Lib.hid rfl
  show Calls Try.prog 21 #[vw a d, vw b c] w _
  unfold vw
  go_enter Try.func21, Try.ntmps21
  go_wp2
  have V1 := Lib.hid (show Vx ((w.alloc (.cells #[.int .i64 (a : Int), .int .i64 (d : Int)] 25)).alloc (.cells #[.int .i64 (b : Int), .int .i64 (c : Int)] 25)) w.heap.size a d from hbe (hat _ _ _ rfl))
  have V2 := Lib.hid (show Vx ((w.alloc (.cells #[.int .i64 (a : Int), .int .i64 (d : Int)] 25)).alloc (.cells #[.int .i64 (b : Int), .int .i64 (c : Int)] 25)) (w.heap.size + 1) b c from hat _ _ _ (by simp))
  have HB := Lib.hid (bal (bal (Below.refl w.heap.size w) (Nat.le_refl _) (.cells #[.int .i64 (a : Int), .int .i64 (d : Int)] 25)) (Nat.le_refl _) (.cells #[.int .i64 (b : Int), .int .i64 (c : Int)] 25))
  generalize ((w.alloc (.cells #[.int .i64 (a : Int), .int .i64 (d : Int)] 25)).alloc (.cells #[.int .i64 (b : Int), .int .i64 (c : Int)] 25)) = w1 at V1 V2 HB ⊢
  have HK : Hid (∀ W', Below w1.heap.size w1 W' → (W'.cell? ⟨w.heap.size, 0, none⟩ = some (.int .i64 (a : Int)) ∧ W'.cell? ⟨w.heap.size, 1, none⟩ = some (.int .i64 (d : Int))) ∧ W'.cell? ⟨w.heap.size + 1, 0, none⟩ = some (.int .i64 (b : Int)) ∧ W'.cell? ⟨w.heap.size + 1, 1, none⟩ = some (.int .i64 (c : Int))) := Lib.hid (by
    intro W' h
    have V1 := V1.out.below h V1.out.lt
    have V2 := V2.out.below h V2.out.lt
    exact ⟨⟨V1.c0, V1.c1⟩, V2.c0, V2.c1⟩)
  clear V1 V2
  obtain ⟨k1, hk1⟩ : ∃ k1, cnt a + cnt d = k1 := ⟨_, rfl⟩
  obtain ⟨k2, hk2⟩ : ∃ k2, cnt b + cnt c = k2 := ⟨_, rfl⟩
  obtain ⟨m1, hm1⟩ : ∃ m1, 64 * a + d = m1 := ⟨_, rfl⟩
  obtain ⟨m2, hm2⟩ : ∃ m2, 64 * b + c = m2 := ⟨_, rfl⟩
  rw [hk1, hk2, hm1, hm2] at HL
  have K1 := Lib.hid hk1; have K2 := Lib.hid hk2; have M1 := Lib.hid hm1; have M2 := Lib.hid hm2
  clear hk1 hk2 hm1 hm2
  refine wp_region_held_drew (S := fun W' => Below w1.heap.size w1 W') (by kernel_rfl) (Below.refl _ _).drew (fun hHeld => ?_)
  generalize w1.drew = w2 at hHeld ⊢
  have HB2 : Hid (Below w1.heap.size w1 w2) := hHeld
  clear hHeld
  refine take_in (i := 0) (oi := ⟨_, _, _, _, _, _⟩) (v := ?_) rfl (by kernel_rfl) (by kernel_rfl) (by kernel_rfl) (fun _ _ _ h => h) (by rfl) ?_ HB2.out ?_
  rotate_left
  · intro W hW; have hq := HK.out W hW; go_simp; with_reducible rfl
  simp only [Act.put, List.setIfInBounds_toArray, List.set_cons_zero, List.set_cons_succ]
  refine take_in (i := 2) (oi := ⟨_, _, _, _, _, _⟩) (v := ?_) rfl (by kernel_rfl) (by kernel_rfl) (by kernel_rfl) (fun _ _ _ h => h) (by rfl) ?_ HB2.out ?_
  rotate_left
  · intro W hW; have hq := HK.out W hW; go_simp; with_reducible rfl
  simp only [Act.put, List.setIfInBounds_toArray, List.set_cons_zero, List.set_cons_succ]
  refine wpAnyH_ready (rs := [1]) (by kernel_rfl) (by simp) ?_
  refine AllReadyH.cons (o := ⟨_, _, _, _, _, _⟩) rfl (fun K hK => ?_) AllReadyH.nil
  go_simp
  refine (size_r a d ha hd _).mono ?_
  rw [K1.out]
  rintro e w3 ⟨rfl, hb3⟩
  have HB3 := Lib.hid (HB2.out.trans (hb3.mono HB2.out.size)); clear hb3
  refine hK.out _ _ HB3.out (fun _ => ?_)
  clear hK K
  refine wpAnyH_ready (rs := [3]) (by kernel_rfl) (by simp) ?_
  refine AllReadyH.cons (o := ⟨_, _, _, _, _, _⟩) rfl (fun K hK => ?_) AllReadyH.nil
  go_simp
  refine (size_r b c hb hc _).mono ?_
  rw [K2.out]
  rintro e w4 ⟨rfl, hb4⟩
  have HB4 := Lib.hid (HB3.out.trans (hb4.mono HB3.out.size)); clear hb4
  refine hK.out _ _ HB4.out (fun _ => ?_)
  clear hK K
  refine take_in (i := 4) (oi := ⟨_, _, _, _, _, _⟩) (v := ?_) rfl (by kernel_rfl) (by kernel_rfl) (by kernel_rfl) (fun _ _ _ h => h) (by rfl) ?_ HB4.out ?_
  rotate_left
  · intro W hW; go_simp; with_reducible rfl
  simp only [Act.put, List.setIfInBounds_toArray, List.set_cons_zero, List.set_cons_succ]
  refine wpAnyH_done (by kernel_rfl) ?_ _
  by_cases hk : k1 = k2
  · subst hk
    rw [if_pos rfl] at HL
    go_wp2
    refine wp_region_held_drew (S := fun W' => Below w1.heap.size w1 W') (by kernel_rfl) HB4.out.drew (fun hHeld => ?_)
    generalize w4.drew = w5 at hHeld ⊢
    have HB5 : Hid (Below w1.heap.size w1 w5) := hHeld
    clear hHeld
    refine take_in (i := 0) (oi := ⟨_, _, _, _, _, _⟩) (v := ?_) rfl (by kernel_rfl) (by kernel_rfl) (by kernel_rfl) (fun _ _ _ h => h) (by rfl) ?_ HB5.out ?_
    rotate_left
    · intro W hW; have hq := HK.out W hW; go_simp; with_reducible rfl
    simp only [Act.put, List.setIfInBounds_toArray, List.set_cons_zero, List.set_cons_succ]
    refine take_in (i := 2) (oi := ⟨_, _, _, _, _, _⟩) (v := ?_) rfl (by kernel_rfl) (by kernel_rfl) (by kernel_rfl) (fun _ _ _ h => h) (by rfl) ?_ HB5.out ?_
    rotate_left
    · intro W hW; have hq := HK.out W hW; go_simp; with_reducible rfl
    simp only [Act.put, List.setIfInBounds_toArray, List.set_cons_zero, List.set_cons_succ]
    refine wpAnyH_ready (rs := [1]) (by kernel_rfl) (by simp) ?_
    refine AllReadyH.cons (o := ⟨_, _, _, _, _, _⟩) rfl (fun K hK => ?_) AllReadyH.nil
    go_simp
    refine (name_r a d ha hd _).mono ?_
    rw [M1.out]
    rintro e w6 ⟨rfl, hb6⟩
    have HB6 := Lib.hid (HB5.out.trans (hb6.mono HB5.out.size)); clear hb6
    refine hK.out _ _ HB6.out (fun _ => ?_)
    clear hK K
    refine wpAnyH_ready (rs := [3]) (by kernel_rfl) (by simp) ?_
    refine AllReadyH.cons (o := ⟨_, _, _, _, _, _⟩) rfl (fun K hK => ?_) AllReadyH.nil
    go_simp
    refine (name_r b c hb hc _).mono ?_
    rw [M2.out]
    rintro e w7 ⟨rfl, hb7⟩
    have HB7 := Lib.hid (HB6.out.trans (hb7.mono HB6.out.size)); clear hb7
    refine hK.out _ _ HB7.out (fun _ => ?_)
    clear hK K
    refine take_in (i := 4) (oi := ⟨_, _, _, _, _, _⟩) (v := ?_) rfl (by kernel_rfl) (by kernel_rfl) (by kernel_rfl) (fun _ _ _ h => h) (by rfl) ?_ HB7.out ?_
    rotate_left
    · intro W hW; go_simp; with_reducible rfl
    simp only [Act.put, List.setIfInBounds_toArray, List.set_cons_zero, List.set_cons_succ]
    refine take_in (i := 5) (oi := ⟨_, _, _, _, _, _⟩) (v := ?_) rfl (by kernel_rfl) (by kernel_rfl) (by kernel_rfl) (fun _ _ _ h => h) (by rfl) ?_ HB7.out ?_
    rotate_left
    · intro W hW; go_simp; with_reducible rfl
    simp only [Act.put, List.setIfInBounds_toArray, List.set_cons_zero, List.set_cons_succ]
    refine wpAnyH_done (by kernel_rfl) ?_ _
    go_wp2
    go_ret
    refine ⟨ret_bool ?_, HB.out.trans (HB7.out.mono HB.out.size)⟩
    rw [HL.out]
  · rw [if_neg hk] at HL
    have hne : ((k1 : Int) == (k2 : Int)) = false := by rw [beq_eq_false_iff_ne]; omega
    go_wp2
    refine wp_region_held_drew (S := fun W' => Below w1.heap.size w1 W') (by kernel_rfl) HB4.out.drew (fun hHeld => ?_)
    generalize w4.drew = w5 at hHeld ⊢
    have HB5 : Hid (Below w1.heap.size w1 w5) := hHeld
    clear hHeld
    refine take_in (i := 0) (oi := ⟨_, _, _, _, _, _⟩) (v := ?_) rfl (by kernel_rfl) (by kernel_rfl) (by kernel_rfl) (fun _ _ _ h => h) (by rfl) ?_ HB5.out ?_
    rotate_left
    · intro W hW; have hq := HK.out W hW; go_simp; with_reducible rfl
    simp only [Act.put, List.setIfInBounds_toArray, List.set_cons_zero, List.set_cons_succ]
    refine take_in (i := 2) (oi := ⟨_, _, _, _, _, _⟩) (v := ?_) rfl (by kernel_rfl) (by kernel_rfl) (by kernel_rfl) (fun _ _ _ h => h) (by rfl) ?_ HB5.out ?_
    rotate_left
    · intro W hW; have hq := HK.out W hW; go_simp; with_reducible rfl
    simp only [Act.put, List.setIfInBounds_toArray, List.set_cons_zero, List.set_cons_succ]
    refine wpAnyH_ready (rs := [1]) (by kernel_rfl) (by simp) ?_
    refine AllReadyH.cons (o := ⟨_, _, _, _, _, _⟩) rfl (fun K hK => ?_) AllReadyH.nil
    go_simp
    refine (size_r a d ha hd _).mono ?_
    rw [K1.out]
    rintro e w6 ⟨rfl, hb6⟩
    have HB6 := Lib.hid (HB5.out.trans (hb6.mono HB5.out.size)); clear hb6
    refine hK.out _ _ HB6.out (fun _ => ?_)
    clear hK K
    refine wpAnyH_ready (rs := [3]) (by kernel_rfl) (by simp) ?_
    refine AllReadyH.cons (o := ⟨_, _, _, _, _, _⟩) rfl (fun K hK => ?_) AllReadyH.nil
    go_simp
    refine (size_r b c hb hc _).mono ?_
    rw [K2.out]
    rintro e w7 ⟨rfl, hb7⟩
    have HB7 := Lib.hid (HB6.out.trans (hb7.mono HB6.out.size)); clear hb7
    refine hK.out _ _ HB7.out (fun _ => ?_)
    clear hK K
    refine take_in (i := 4) (oi := ⟨_, _, _, _, _, _⟩) (v := ?_) rfl (by kernel_rfl) (by kernel_rfl) (by kernel_rfl) (fun _ _ _ h => h) (by rfl) ?_ HB7.out ?_
    rotate_left
    · intro W hW; go_simp; with_reducible rfl
    simp only [Act.put, List.setIfInBounds_toArray, List.set_cons_zero, List.set_cons_succ]
    refine take_in (i := 5) (oi := ⟨_, _, _, _, _, _⟩) (v := ?_) rfl (by kernel_rfl) (by kernel_rfl) (by kernel_rfl) (fun _ _ _ h => h) (by rfl) ?_ HB7.out ?_
    rotate_left
    · intro W hW; go_simp; with_reducible rfl
    simp only [Act.put, List.setIfInBounds_toArray, List.set_cons_zero, List.set_cons_succ]
    refine wpAnyH_done (by kernel_rfl) ?_ _
    go_wp2
    go_ret
    refine ⟨ret_bool ?_, HB.out.trans (HB7.out.mono HB.out.size)⟩
    rw [HL.out]
end Go.Proofs.Ytofjdfnoibfdfaa
