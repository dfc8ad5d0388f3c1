/- The walk of ChangeTurns. -/
import Derived.Test.YtjmbgajaflcbaaaChgA
import Derived.Test.YtjmbgajaflcbaaaWf
import Derived.Deep.DeepCutAuto
namespace Go.Proofs.Ytjmbgajaflcbaaa.changeTurns
open Go.RowKit
open Chg

theorem within_or (a b f : Nat) (h : within a f = true) : within (a ||| b) f = within b f := by
  unfold within at *
  rw [beq_iff_eq] at h
  rw [Bool.eq_iff_iff, beq_iff_eq, beq_iff_eq]
  constructor
  · intro e
    rw [← e, ← Nat.or_assoc, ← Nat.or_assoc, Nat.or_comm b a, Nat.or_assoc a b b, Nat.or_self]
  · intro e
    rw [Nat.or_assoc, e, h]

set_option maxRecDepth 100000 in
set_option maxHeartbeats 8000000 in
theorem walk (w : World) (a : Int) (_ : (Lit.int .i64 a).wf = true) (d : Int) (_ : (Lit.int .i64 d).wf = true) (b : Int) (_ : (Lit.int .i64 b).wf = true) (c : Int) (_ : (Lit.int .i64 c).wf = true) (f : Int) (_ : (Lit.int .i64 f).wf = true) (g : Int) (_ : (Lit.int .i64 g).wf = true) :
    Calls Try.prog 6 #[vw a d, vw b c, vw f g] w fun e w' => e = .returned (.bool true) ∧ Below w.heap.size w w' := by
  have heq := eq_view
  unfold vw
  go_enter Try.func6, Try.ntmps6
  go_wp2_with fail
  have V1 := Lib.hid (show Vi (((w.alloc (.cells #[.int .i64 a, .int .i64 d] 23)).alloc (.cells #[.int .i64 b, .int .i64 c] 23)).alloc (.cells #[.int .i64 f, .int .i64 g] 23)) w.heap.size a d from hbe (hbe (hat _ _ _ rfl)))
  have V2 := Lib.hid (show Vi (((w.alloc (.cells #[.int .i64 a, .int .i64 d] 23)).alloc (.cells #[.int .i64 b, .int .i64 c] 23)).alloc (.cells #[.int .i64 f, .int .i64 g] 23)) (w.heap.size + 1) b c from hbe (hat _ _ _ (by simp)))
  have V3 := Lib.hid (show Vi (((w.alloc (.cells #[.int .i64 a, .int .i64 d] 23)).alloc (.cells #[.int .i64 b, .int .i64 c] 23)).alloc (.cells #[.int .i64 f, .int .i64 g] 23)) (w.heap.size + 1 + 1) f g from hat _ _ _ (by simp))
  have HB := Lib.hid (bal (bal (bal (Below.refl w.heap.size w) (Nat.le_refl _) (.cells #[.int .i64 a, .int .i64 d] 23)) (Nat.le_refl _) (.cells #[.int .i64 b, .int .i64 c] 23)) (Nat.le_refl _) (.cells #[.int .i64 f, .int .i64 g] 23))
  generalize ((w.alloc (.cells #[.int .i64 a, .int .i64 d] 23)).alloc (.cells #[.int .i64 b, .int .i64 c] 23)).alloc (.cells #[.int .i64 f, .int .i64 g] 23) = w1 at V1 V2 V3 HB ⊢
  have HK : Hid (∀ W', Below w1.heap.size w1 W' → W'.cell? ⟨w.heap.size, 0, none⟩ = some (.int .i64 a) ∧ W'.cell? ⟨w.heap.size, 1, none⟩ = some (.int .i64 d) ∧ W'.cell? ⟨w.heap.size + 1, 0, none⟩ = some (.int .i64 b) ∧ W'.cell? ⟨w.heap.size + 1, 1, none⟩ = some (.int .i64 c) ∧ W'.cell? ⟨w.heap.size + 1 + 1, 0, none⟩ = some (.int .i64 f) ∧ W'.cell? ⟨w.heap.size + 1 + 1, 1, none⟩ = some (.int .i64 g)) := Lib.hid (by
    intro W' h
    have V1 := V1.out.below h
    have V2 := V2.out.below h
    have V3 := V3.out.below h
    exact ⟨V1.c0, V1.c1, V2.c0, V2.c1, V3.c0, V3.c1⟩)
  clear V1 V2 V3
  refine (alive_c _).mono ?_
  rintro e w5 ⟨rfl, hb5⟩
  have HB5 := Lib.hid hb5; clear hb5
  have hq := HK.out w5 HB5.out
  go_wp2_with fail
  refine (right_c a d _).mono ?_
  rintro e w6 ⟨rfl, hb6⟩
  have HB6 := Lib.hid (HB5.out.trans (hb6.mono HB5.out.size)); clear hb6 hq
  cases hra : rightB a d with
  | false =>
    go_wp2
    go_ret
    exact ⟨rfl, HB.out.trans (HB6.out.mono HB.out.size)⟩
  | true =>
  have HRA := Lib.hid hra; clear hra
  have hq := HK.out w6 HB6.out
  go_wp2_with fail
  refine (right_c b c _).mono ?_
  rintro e w7 ⟨rfl, hb7⟩
  have HB7 := Lib.hid (HB6.out.trans (hb7.mono HB6.out.size)); clear hb7 hq
  cases hrb : rightB b c with
  | false =>
    go_wp2
    go_ret
    exact ⟨rfl, HB.out.trans (HB7.out.mono HB.out.size)⟩
  | true =>
  have HRB := Lib.hid hrb; clear hrb
  have hq := HK.out w7 HB7.out
  go_wp2_with fail
  refine (right_c f g _).mono ?_
  rintro e w8 ⟨rfl, hb8⟩
  have HB8 := Lib.hid (HB7.out.trans (hb8.mono HB7.out.size)); clear hb8 hq
  cases hrc : rightB f g with
  | false =>
    go_wp2
    go_ret
    exact ⟨rfl, HB.out.trans (HB8.out.mono HB.out.size)⟩
  | true =>
  have HRC := Lib.hid hrc; clear hrc
  obtain ⟨a, d, rfl, rfl, ha, hd⟩ := right_nat HRA.out
  obtain ⟨b, c, rfl, rfl, hb, hc⟩ := right_nat HRB.out
  obtain ⟨f, g, rfl, rfl, hf, hg⟩ := right_nat HRC.out
  clear HRA HRB HRC
  have hq := HK.out w8 HB8.out
  obtain ⟨p, hp⟩ : ∃ p, p = a ||| b ||| f := ⟨_, rfl⟩
  obtain ⟨q, hq'⟩ : ∃ q, q = d ||| c ||| g := ⟨_, rfl⟩
  obtain ⟨r, hr⟩ : ∃ r, r = a ||| b := ⟨_, rfl⟩
  obtain ⟨s, hs⟩ : ∃ s, s = d ||| c := ⟨_, rfl⟩
  obtain ⟨m, hm⟩ : ∃ m, m = minus a b := ⟨_, rfl⟩
  obtain ⟨n, hn⟩ : ∃ n, n = minus d c := ⟨_, rfl⟩
  have hp64 : p < 64 := by rw [hp]; exact or_lt (or_lt ha hb) hf
  have hq64 : q < 64 := by rw [hq']; exact or_lt (or_lt hd hc) hg
  have hr64 : r < 64 := by rw [hr]; exact or_lt ha hb
  have hs64 : s < 64 := by rw [hs]; exact or_lt hd hc
  have hm64 : m < 64 := by rw [hm]; exact minus_lt a b
  have hn64 : n < 64 := by rw [hn]; exact minus_lt d c
  have J1 : Hid (joinF [(a, d), (b, c), (f, g)] = (p, q)) := Lib.hid (by rw [hp, hq']; exact join3 a d b c f g ha hd hb hc hf hg)
  have J2 : Hid (joinF [(b, c), (a, d)] = (r, s)) := Lib.hid (by rw [join2 b c a d hb hc ha hd, hr, hs, Nat.or_comm, Nat.or_comm c d])
  have J3 : Hid (joinF [(f, g), (r, s)] = (p, q)) := Lib.hid (by rw [join2 f g r s hf hg hr64 hs64, hp, hq', hr, hs, Nat.or_comm, Nat.or_comm g])
  have J4 : Hid (joinF [(a, d), (a, d)] = (a, d)) := Lib.hid (by rw [join2 a d a d ha hd ha hd, Nat.or_self, Nat.or_self])
  have J5 : Hid (joinF [(a, d), (b, c)] = (r, s)) := Lib.hid (by rw [join2 a d b c ha hd hb hc, hr, hs])
  have J6 : Hid (joinF [(m, n), (b, c)] = (r, s)) := Lib.hid (by rw [join2 m n b c hm64 hn64 hb hc, hm, hn, hr, hs, minus_or a b ha hb, minus_or d c hd hc])
  have K1 : Hid (withinV a d p q = true) := Lib.hid (by
    unfold withinV
    rw [Bool.and_eq_true, Chg.within_iff, Chg.within_iff, hp, hq', Nat.or_assoc a b f, ← Nat.or_assoc a a, Nat.or_self, Nat.or_assoc d c g, ← Nat.or_assoc d d, Nat.or_self]
    exact ⟨rfl, rfl⟩)
  have K2 : Hid (rightB (p : Int) (q : Int) = true) := Lib.hid (decide_eq_true (by omega))
  have K3 : Hid (withinV a d f g = true → withinV r s f g = withinV b c f g) := Lib.hid (by
    intro h
    unfold withinV at *
    rw [Bool.and_eq_true] at h
    rw [hr, hs, within_or a b f h.1, within_or d c g h.2])
  have K4 : Hid (minus a b = m ∧ minus d c = n ∧ minus m b = m ∧ minus n c = n) := Lib.hid ⟨hm.symm, hn.symm, by rw [hm]; exact minus_minus a b ha hb, by rw [hn]; exact minus_minus d c hd hc⟩
  have K5 : Hid (cnt r + cnt s = cnt b + cnt c + (cnt m + cnt n)) := Lib.hid (by
    rw [hr, hs, hm, hn, cnt_or a b ha hb, cnt_or d c hd hc]
    omega)
  clear hp hq' hr hs hm hn
  go_wp2_with fail
  have RL := Lib.hid ((show Rv (w8.alloc (.cells #[.int .i64 (a : Int), .int .i64 (d : Int), .int .i64 (b : Int), .int .i64 (c : Int), .int .i64 (f : Int), .int .i64 (g : Int)] 23)) (w8.heap.size + 1) (some ⟨w8.heap.size, 0, none⟩) [(a, d), (b, c), (f, g)] from rv_new w8 [(a, d), (b, c), (f, g)]).more (show w8.heap.size + 1 ≤ (w8.alloc (.cells #[.int .i64 (a : Int), .int .i64 (d : Int), .int .i64 (b : Int), .int .i64 (c : Int), .int .i64 (f : Int), .int .i64 (g : Int)] 23)).heap.size by simp))
  have HB9 := Lib.hid (bal HB8.out (Nat.le_refl _) (.cells #[.int .i64 (a : Int), .int .i64 (d : Int), .int .i64 (b : Int), .int .i64 (c : Int), .int .i64 (f : Int), .int .i64 (g : Int)] 23))
  generalize w8.alloc (.cells #[.int .i64 (a : Int), .int .i64 (d : Int), .int .i64 (b : Int), .int .i64 (c : Int), .int .i64 (f : Int), .int .i64 (g : Int)] 23) = w9 at RL HB9 ⊢
  generalize w8.heap.size = gl at RL ⊢
  refine (join_c _ 3 3 [(a, d), (b, c), (f, g)] rfl (by omega) (by simp; omega) w9.heap.size _ RL.out (Nat.le_refl _)).mono ?_
  rw [J1.out]
  rintro e w10 ⟨rfl, hb10⟩
  have HB10 := Lib.hid (HB9.out.trans (hb10.mono HB9.out.size)); clear hb10 hq RL
  unfold vw
  go_wp2
  have V4 := Lib.hid (show Vi (w10.alloc (.cells #[.int .i64 (p : Int), .int .i64 (q : Int)] 23)) w10.heap.size p q from hat _ _ _ rfl)
  have HB11 := Lib.hid (bal HB10.out (Nat.le_refl _) (.cells #[.int .i64 (p : Int), .int .i64 (q : Int)] 23))
  generalize w10.alloc (.cells #[.int .i64 (p : Int), .int .i64 (q : Int)] 23) = w11 at V4 HB11 ⊢
  generalize w10.heap.size = g7 at V4 ⊢
  have HKA : Hid (∀ W', Below w11.heap.size w11 W' → (W'.cell? ⟨w.heap.size, 0, none⟩ = some (.int .i64 (a : Int)) ∧ W'.cell? ⟨w.heap.size, 1, none⟩ = some (.int .i64 (d : Int)) ∧ W'.cell? ⟨w.heap.size + 1, 0, none⟩ = some (.int .i64 (b : Int)) ∧ W'.cell? ⟨w.heap.size + 1, 1, none⟩ = some (.int .i64 (c : Int)) ∧ W'.cell? ⟨w.heap.size + 1 + 1, 0, none⟩ = some (.int .i64 (f : Int)) ∧ W'.cell? ⟨w.heap.size + 1 + 1, 1, none⟩ = some (.int .i64 (g : Int))) ∧ W'.cell? ⟨g7, 0, none⟩ = some (.int .i64 (p : Int)) ∧ W'.cell? ⟨g7, 1, none⟩ = some (.int .i64 (q : Int))) := Lib.hid (by
    intro W' h
    have V4 := V4.out.below h
    exact ⟨HK.out W' (HB11.out.trans (h.mono HB11.out.size)), V4.c0, V4.c1⟩)
  refine wp_region_held_drew (S := fun W' => Below w11.heap.size w11 W') (by kernel_rfl) (Below.refl _ _).drew (fun hHeld => ?_)
  generalize w11.drew = w12 at hHeld ⊢
  have HB12 : Hid (Below w11.heap.size w11 w12) := hHeld
  clear hHeld
  refine take_in (i := 0) (oi := ⟨_, _, _, _, _, _⟩) (v := ?_) rfl (by kernel_rfl) (by kernel_rfl) (by kernel_rfl) (fun _ _ _ h => h) (by rfl) ?_ HB12.out ?_
  rotate_left
  · intro W hW; have hq := HKA.out W hW; go_simp; with_reducible rfl
  simp only [Act.put, List.setIfInBounds_toArray, List.set_cons_zero, List.set_cons_succ]
  refine take_in (i := 1) (oi := ⟨_, _, _, _, _, _⟩) (v := ?_) rfl (by kernel_rfl) (by kernel_rfl) (by kernel_rfl) (fun _ _ _ h => h) (by rfl) ?_ HB12.out ?_
  rotate_left
  · intro W hW; have hq := HKA.out W hW; go_simp; with_reducible rfl
  simp only [Act.put, List.setIfInBounds_toArray, List.set_cons_zero, List.set_cons_succ]
  refine take_in (i := 2) (oi := ⟨_, _, _, _, _, _⟩) (v := ?_) rfl (by kernel_rfl) (by kernel_rfl) (by kernel_rfl) (fun _ _ _ h => h) (by rfl) ?_ HB12.out ?_
  rotate_left
  · intro W hW; have hq := HKA.out W hW; go_simp; with_reducible rfl
  simp only [Act.put, List.setIfInBounds_toArray, List.set_cons_zero, List.set_cons_succ]
  refine take_in (i := 7) (oi := ⟨_, _, _, _, _, _⟩) (v := ?_) rfl (by kernel_rfl) (by kernel_rfl) (by kernel_rfl) (fun _ _ _ h => h) (by rfl) ?_ HB12.out ?_
  rotate_left
  · intro W hW; have hq := HKA.out W hW; go_simp; with_reducible rfl
  simp only [Act.put, List.setIfInBounds_toArray, List.set_cons_zero, List.set_cons_succ]
  refine wpAnyH_ready (rs := [3]) (by kernel_rfl) (by simp) ?_
  refine AllReadyH.cons (o := ⟨_, _, _, _, _, _⟩) rfl (fun K hK => ?_) AllReadyH.nil
  go_simp
  refine hK.out _ _ (bal HB12.out (Nat.le_refl _) _) (fun _ => ?_)
  clear hK K
  have RA := Lib.hid ((show Rv (w12.alloc (.cells #[.int .i64 (b : Int), .int .i64 (c : Int), .int .i64 (a : Int), .int .i64 (d : Int)] 23)) (w12.heap.size + 1) (some ⟨w12.heap.size, 0, none⟩) [(b, c), (a, d)] from rv_new w12 [(b, c), (a, d)]).more (show w12.heap.size + 1 ≤ (w12.alloc (.cells #[.int .i64 (b : Int), .int .i64 (c : Int), .int .i64 (a : Int), .int .i64 (d : Int)] 23)).heap.size by simp))
  have HB13 := Lib.hid (bal HB12.out (Nat.le_refl _) (.cells #[.int .i64 (b : Int), .int .i64 (c : Int), .int .i64 (a : Int), .int .i64 (d : Int)] 23))
  generalize w12.alloc (.cells #[.int .i64 (b : Int), .int .i64 (c : Int), .int .i64 (a : Int), .int .i64 (d : Int)] 23) = w13 at RA HB13 ⊢
  generalize w12.heap.size = gRA at RA ⊢
  refine wpAnyH_ready (rs := [4]) (by kernel_rfl) (by simp) ?_
  refine AllReadyH.cons (o := ⟨_, _, _, _, _, _⟩) rfl (fun K hK => ?_) AllReadyH.nil
  go_simp
  refine (join_c _ 2 2 [(b, c), (a, d)] rfl (by omega) (by simp; omega) w13.heap.size _ RA.out (Nat.le_refl _)).mono ?_
  rw [J2.out]
  rintro e w14 ⟨rfl, hb14⟩
  have HB14 := Lib.hid (HB13.out.trans (hb14.mono HB13.out.size)); clear hb14
  refine hK.out _ _ HB14.out (fun _ => ?_)
  clear hK K
  unfold vw
  refine wpAnyH_ready (rs := [5]) (by kernel_rfl) (by simp) ?_
  refine AllReadyH.cons (o := ⟨_, _, _, _, _, _⟩) rfl (fun K hK => ?_) AllReadyH.nil
  go_simp
  refine hK.out _ _ (bal HB14.out (Nat.le_refl _) _) (fun _ => ?_)
  clear hK K
  have RB := Lib.hid ((show Rv (w14.alloc (.cells #[.int .i64 (f : Int), .int .i64 (g : Int), .int .i64 (r : Int), .int .i64 (s : Int)] 23)) (w14.heap.size + 1) (some ⟨w14.heap.size, 0, none⟩) [(f, g), (r, s)] from rv_new w14 [(f, g), (r, s)]).more (show w14.heap.size + 1 ≤ (w14.alloc (.cells #[.int .i64 (f : Int), .int .i64 (g : Int), .int .i64 (r : Int), .int .i64 (s : Int)] 23)).heap.size by simp))
  have HB15 := Lib.hid (bal HB14.out (Nat.le_refl _) (.cells #[.int .i64 (f : Int), .int .i64 (g : Int), .int .i64 (r : Int), .int .i64 (s : Int)] 23))
  generalize w14.alloc (.cells #[.int .i64 (f : Int), .int .i64 (g : Int), .int .i64 (r : Int), .int .i64 (s : Int)] 23) = w15 at RB HB15 ⊢
  generalize w14.heap.size = gRB at RB ⊢
  refine wpAnyH_ready (rs := [6]) (by kernel_rfl) (by simp) ?_
  refine AllReadyH.cons (o := ⟨_, _, _, _, _, _⟩) rfl (fun K hK => ?_) AllReadyH.nil
  go_simp
  refine (join_c _ 2 2 [(f, g), (r, s)] rfl (by omega) (by simp; omega) w15.heap.size _ RB.out (Nat.le_refl _)).mono ?_
  rw [J3.out]
  rintro e w16 ⟨rfl, hb16⟩
  have HB16 := Lib.hid (HB15.out.trans (hb16.mono HB15.out.size)); clear hb16
  refine hK.out _ _ HB16.out (fun _ => ?_)
  clear hK K
  unfold vw
  refine take_in (i := 8) (oi := ⟨_, _, _, _, _, _⟩) (v := ?_) rfl (by kernel_rfl) (by kernel_rfl) (by kernel_rfl) (fun _ _ _ h => h) (by rfl) ?_ HB16.out ?_
  rotate_left
  · intro W hW; have hq := HKA.out W hW; go_simp; with_reducible rfl
  simp only [Act.put, List.setIfInBounds_toArray, List.set_cons_zero, List.set_cons_succ]
  refine take_in (i := 9) (oi := ⟨_, _, _, _, _, _⟩) (v := ?_) rfl (by kernel_rfl) (by kernel_rfl) (by kernel_rfl) (fun _ _ _ h => h) (by rfl) ?_ HB16.out ?_
  rotate_left
  · intro W hW; have hq := HKA.out W hW; go_simp; with_reducible rfl
  simp only [Act.put, List.setIfInBounds_toArray, List.set_cons_zero, List.set_cons_succ]
  refine take_in (i := 10) (oi := ⟨_, _, _, _, _, _⟩) (v := ?_) rfl (by kernel_rfl) (by kernel_rfl) (by kernel_rfl) (fun _ _ _ h => h) (by rfl) ?_ HB16.out ?_
  rotate_left
  · intro W hW; have hq := HKA.out W hW; go_simp; with_reducible rfl
  simp only [Act.put, List.setIfInBounds_toArray, List.set_cons_zero, List.set_cons_succ]
  refine take_in (i := 11) (oi := ⟨_, _, _, _, _, _⟩) (v := ?_) rfl (by kernel_rfl) (by kernel_rfl) (by kernel_rfl) (fun _ _ _ h => h) (by rfl) ?_ HB16.out ?_
  rotate_left
  · intro W hW; have hq := HKA.out W hW; go_simp; with_reducible rfl
  simp only [Act.put, List.setIfInBounds_toArray, List.set_cons_zero, List.set_cons_succ]
  refine take_in (i := 14) (oi := ⟨_, _, _, _, _, _⟩) (v := ?_) rfl (by kernel_rfl) (by kernel_rfl) (by kernel_rfl) (fun _ _ _ h => h) (by rfl) ?_ HB16.out ?_
  rotate_left
  · intro W hW; have hq := HKA.out W hW; go_simp; with_reducible rfl
  simp only [Act.put, List.setIfInBounds_toArray, List.set_cons_zero, List.set_cons_succ]
  refine wpAnyH_ready (rs := [12]) (by kernel_rfl) (by simp) ?_
  refine AllReadyH.cons (o := ⟨_, _, _, _, _, _⟩) rfl (fun K hK => ?_) AllReadyH.nil
  go_simp
  refine hK.out _ _ (bal HB16.out (Nat.le_refl _) _) (fun _ => ?_)
  clear hK K
  have RC := Lib.hid ((show Rv (w16.alloc (.cells #[.int .i64 (a : Int), .int .i64 (d : Int), .int .i64 (a : Int), .int .i64 (d : Int)] 23)) (w16.heap.size + 1) (some ⟨w16.heap.size, 0, none⟩) [(a, d), (a, d)] from rv_new w16 [(a, d), (a, d)]).more (show w16.heap.size + 1 ≤ (w16.alloc (.cells #[.int .i64 (a : Int), .int .i64 (d : Int), .int .i64 (a : Int), .int .i64 (d : Int)] 23)).heap.size by simp))
  have HB17 := Lib.hid (bal HB16.out (Nat.le_refl _) (.cells #[.int .i64 (a : Int), .int .i64 (d : Int), .int .i64 (a : Int), .int .i64 (d : Int)] 23))
  generalize w16.alloc (.cells #[.int .i64 (a : Int), .int .i64 (d : Int), .int .i64 (a : Int), .int .i64 (d : Int)] 23) = w17 at RC HB17 ⊢
  generalize w16.heap.size = gRC at RC ⊢
  refine wpAnyH_ready (rs := [13]) (by kernel_rfl) (by simp) ?_
  refine AllReadyH.cons (o := ⟨_, _, _, _, _, _⟩) rfl (fun K hK => ?_) AllReadyH.nil
  go_simp
  refine (join_c _ 2 2 [(a, d), (a, d)] rfl (by omega) (by simp; omega) w17.heap.size _ RC.out (Nat.le_refl _)).mono ?_
  rw [J4.out]
  rintro e w18 ⟨rfl, hb18⟩
  have HB18 := Lib.hid (HB17.out.trans (hb18.mono HB17.out.size)); clear hb18
  refine hK.out _ _ HB18.out (fun _ => ?_)
  clear hK K
  unfold vw
  refine take_in (i := 15) (oi := ⟨_, _, _, _, _, _⟩) (v := ?_) rfl (by kernel_rfl) (by kernel_rfl) (by kernel_rfl) (fun _ _ _ h => h) (by rfl) ?_ HB18.out ?_
  rotate_left
  · intro W hW; have hq := HKA.out W hW; go_simp; with_reducible rfl
  simp only [Act.put, List.setIfInBounds_toArray, List.set_cons_zero, List.set_cons_succ]
  refine take_in (i := 16) (oi := ⟨_, _, _, _, _, _⟩) (v := ?_) rfl (by kernel_rfl) (by kernel_rfl) (by kernel_rfl) (fun _ _ _ h => h) (by rfl) ?_ HB18.out ?_
  rotate_left
  · intro W hW; have hq := HKA.out W hW; go_simp; with_reducible rfl
  simp only [Act.put, List.setIfInBounds_toArray, List.set_cons_zero, List.set_cons_succ]
  refine take_in (i := 17) (oi := ⟨_, _, _, _, _, _⟩) (v := ?_) rfl (by kernel_rfl) (by kernel_rfl) (by kernel_rfl) (fun _ _ _ h => h) (by rfl) ?_ HB18.out ?_
  rotate_left
  · intro W hW; have hq := HKA.out W hW; go_simp; with_reducible rfl
  simp only [Act.put, List.setIfInBounds_toArray, List.set_cons_zero, List.set_cons_succ]
  refine take_in (i := 18) (oi := ⟨_, _, _, _, _, _⟩) (v := ?_) rfl (by kernel_rfl) (by kernel_rfl) (by kernel_rfl) (fun _ _ _ h => h) (by rfl) ?_ HB18.out ?_
  rotate_left
  · intro W hW; have hq := HKA.out W hW; go_simp; with_reducible rfl
  simp only [Act.put, List.setIfInBounds_toArray, List.set_cons_zero, List.set_cons_succ]
  refine take_in (i := 19) (oi := ⟨_, _, _, _, _, _⟩) (v := ?_) rfl (by kernel_rfl) (by kernel_rfl) (by kernel_rfl) (fun _ _ _ h => h) (by rfl) ?_ HB18.out ?_
  rotate_left
  · intro W hW; have hq := HKA.out W hW; go_simp; with_reducible rfl
  simp only [Act.put, List.setIfInBounds_toArray, List.set_cons_zero, List.set_cons_succ]
  refine wpAnyH_ready (rs := [20]) (by kernel_rfl) (by simp) ?_
  refine AllReadyH.cons (o := ⟨_, _, _, _, _, _⟩) rfl (fun K hK => ?_) AllReadyH.nil
  go_simp
  refine (within_c a d ha hd p q hp64 hq64 _).mono ?_
  rw [K1.out]
  rintro e w19 ⟨rfl, hb19⟩
  have HB19 := Lib.hid (HB18.out.trans (hb19.mono HB18.out.size)); clear hb19
  refine hK.out _ _ HB19.out (fun _ => ?_)
  clear hK K
  refine take_in (i := 21) (oi := ⟨_, _, _, _, _, _⟩) (v := ?_) rfl (by kernel_rfl) (by kernel_rfl) (by kernel_rfl) (fun _ _ _ h => h) (by rfl) ?_ HB19.out ?_
  rotate_left
  · intro W hW; have hq := HKA.out W hW; go_simp; with_reducible rfl
  simp only [Act.put, List.setIfInBounds_toArray, List.set_cons_zero, List.set_cons_succ]
  refine take_in (i := 22) (oi := ⟨_, _, _, _, _, _⟩) (v := ?_) rfl (by kernel_rfl) (by kernel_rfl) (by kernel_rfl) (fun _ _ _ h => h) (by rfl) ?_ HB19.out ?_
  rotate_left
  · intro W hW; have hq := HKA.out W hW; go_simp; with_reducible rfl
  simp only [Act.put, List.setIfInBounds_toArray, List.set_cons_zero, List.set_cons_succ]
  refine take_in (i := 23) (oi := ⟨_, _, _, _, _, _⟩) (v := ?_) rfl (by kernel_rfl) (by kernel_rfl) (by kernel_rfl) (fun _ _ _ h => h) (by rfl) ?_ HB19.out ?_
  rotate_left
  · intro W hW; have hq := HKA.out W hW; go_simp; with_reducible rfl
  simp only [Act.put, List.setIfInBounds_toArray, List.set_cons_zero, List.set_cons_succ]
  refine take_in (i := 24) (oi := ⟨_, _, _, _, _, _⟩) (v := ?_) rfl (by kernel_rfl) (by kernel_rfl) (by kernel_rfl) (fun _ _ _ h => h) (by rfl) ?_ HB19.out ?_
  rotate_left
  · intro W hW; have hq := HKA.out W hW; go_simp; with_reducible rfl
  simp only [Act.put, List.setIfInBounds_toArray, List.set_cons_zero, List.set_cons_succ]
  refine wpAnyH_ready (rs := [25]) (by kernel_rfl) (by simp) ?_
  refine AllReadyH.cons (o := ⟨_, _, _, _, _, _⟩) rfl (fun K hK => ?_) AllReadyH.nil
  go_simp
  refine (right_c p q _).mono ?_
  rw [K2.out]
  rintro e w20 ⟨rfl, hb20⟩
  have HB20 := Lib.hid (HB19.out.trans (hb20.mono HB19.out.size)); clear hb20
  refine hK.out _ _ HB20.out (fun _ => ?_)
  clear hK K
  refine take_in (i := 26) (oi := ⟨_, _, _, _, _, _⟩) (v := ?_) rfl (by kernel_rfl) (by kernel_rfl) (by kernel_rfl) (fun _ _ _ h => h) (by rfl) ?_ HB20.out ?_
  rotate_left
  · intro W hW; have hq := HKA.out W hW; go_simp; with_reducible rfl
  simp only [Act.put, List.setIfInBounds_toArray, List.set_cons_zero, List.set_cons_succ]
  refine take_in (i := 27) (oi := ⟨_, _, _, _, _, _⟩) (v := ?_) rfl (by kernel_rfl) (by kernel_rfl) (by kernel_rfl) (fun _ _ _ h => h) (by rfl) ?_ HB20.out ?_
  rotate_left
  · intro W hW; have hq := HKA.out W hW; go_simp; with_reducible rfl
  simp only [Act.put, List.setIfInBounds_toArray, List.set_cons_zero, List.set_cons_succ]
  refine wpAnyH_done (by kernel_rfl) ?_ _
  go_wp2
  have HBR := Lib.hid HB20.out
  go_cut [71] (fun s71 wq => s71 = .bool false ∧ Below w11.heap.size w11 wq)
  case first =>
    cases hx : withinV a d f g with
    | false =>
      have HX := Lib.hid hx; clear hx
      refine wp_region_held_drew (S := fun W' => Below w11.heap.size w11 W') (by kernel_rfl) HBR.out.drew (fun hHeld => ?_)
      generalize w20.drew = w30 at hHeld ⊢
      have HB30 : Hid (Below w11.heap.size w11 w30) := hHeld
      clear hHeld
      refine take_in (i := 0) (oi := ⟨_, _, _, _, _, _⟩) (v := ?_) rfl (by kernel_rfl) (by kernel_rfl) (by kernel_rfl) (fun _ _ _ h => h) (by rfl) ?_ HB30.out ?_
      rotate_left
      · intro W hW; have hq := HKA.out W hW; go_simp; with_reducible rfl
      simp only [Act.put, List.setIfInBounds_toArray, List.set_cons_zero, List.set_cons_succ]
      refine take_in (i := 1) (oi := ⟨_, _, _, _, _, _⟩) (v := ?_) rfl (by kernel_rfl) (by kernel_rfl) (by kernel_rfl) (fun _ _ _ h => h) (by rfl) ?_ HB30.out ?_
      rotate_left
      · intro W hW; have hq := HKA.out W hW; go_simp; with_reducible rfl
      simp only [Act.put, List.setIfInBounds_toArray, List.set_cons_zero, List.set_cons_succ]
      refine wpAnyH_ready (rs := [2]) (by kernel_rfl) (by simp) ?_
      refine AllReadyH.cons (o := ⟨_, _, _, _, _, _⟩) rfl (fun K hK => ?_) AllReadyH.nil
      go_simp
      refine (within_c a d ha hd f g hf hg _).mono ?_
      rw [HX.out]
      rintro e w31 ⟨rfl, hb31⟩
      have HB31 := Lib.hid (HB30.out.trans (hb31.mono HB30.out.size)); clear hb31
      refine hK.out _ _ HB31.out (fun _ => ?_)
      clear hK K
      refine take_in (i := 3) (oi := ⟨_, _, _, _, _, _⟩) (v := ?_) rfl (by kernel_rfl) (by kernel_rfl) (by kernel_rfl) (fun _ _ _ h => h) (by rfl) ?_ HB31.out ?_
      rotate_left
      · intro W hW; have hq := HKA.out W hW; go_simp; with_reducible rfl
      simp only [Act.put, List.setIfInBounds_toArray, List.set_cons_zero, List.set_cons_succ]
      refine skip_in (i := 4) (oi := ⟨_, _, _, _, _, _⟩) rfl (by kernel_rfl) (by kernel_rfl) (by kernel_rfl) (fun _ _ _ h => h) (by rfl) HB31.out ?_
      simp only [Act.put, List.setIfInBounds_toArray, List.set_cons_zero, List.set_cons_succ]
      refine skip_in (i := 5) (oi := ⟨_, _, _, _, _, _⟩) rfl (by kernel_rfl) (by kernel_rfl) (by kernel_rfl) (fun _ _ _ h => h) (by rfl) HB31.out ?_
      simp only [Act.put, List.setIfInBounds_toArray, List.set_cons_zero, List.set_cons_succ]
      refine skip_in (i := 6) (oi := ⟨_, _, _, _, _, _⟩) rfl (by kernel_rfl) (by kernel_rfl) (by kernel_rfl) (fun _ _ _ h => h) (by rfl) HB31.out ?_
      simp only [Act.put, List.setIfInBounds_toArray, List.set_cons_zero, List.set_cons_succ]
      refine skip_in (i := 7) (oi := ⟨_, _, _, _, _, _⟩) rfl (by kernel_rfl) (by kernel_rfl) (by kernel_rfl) (fun _ _ _ h => h) (by rfl) HB31.out ?_
      simp only [Act.put, List.setIfInBounds_toArray, List.set_cons_zero, List.set_cons_succ]
      refine skip_in (i := 8) (oi := ⟨_, _, _, _, _, _⟩) rfl (by kernel_rfl) (by kernel_rfl) (by kernel_rfl) (fun _ _ _ h => h) (by rfl) HB31.out ?_
      simp only [Act.put, List.setIfInBounds_toArray, List.set_cons_zero, List.set_cons_succ]
      refine skip_in (i := 9) (oi := ⟨_, _, _, _, _, _⟩) rfl (by kernel_rfl) (by kernel_rfl) (by kernel_rfl) (fun _ _ _ h => h) (by rfl) HB31.out ?_
      simp only [Act.put, List.setIfInBounds_toArray, List.set_cons_zero, List.set_cons_succ]
      refine skip_in (i := 10) (oi := ⟨_, _, _, _, _, _⟩) rfl (by kernel_rfl) (by kernel_rfl) (by kernel_rfl) (fun _ _ _ h => h) (by rfl) HB31.out ?_
      simp only [Act.put, List.setIfInBounds_toArray, List.set_cons_zero, List.set_cons_succ]
      refine skip_in (i := 11) (oi := ⟨_, _, _, _, _, _⟩) rfl (by kernel_rfl) (by kernel_rfl) (by kernel_rfl) (fun _ _ _ h => h) (by rfl) HB31.out ?_
      simp only [Act.put, List.setIfInBounds_toArray, List.set_cons_zero, List.set_cons_succ]
      refine skip_in (i := 12) (oi := ⟨_, _, _, _, _, _⟩) rfl (by kernel_rfl) (by kernel_rfl) (by kernel_rfl) (fun _ _ _ h => h) (by rfl) HB31.out ?_
      simp only [Act.put, List.setIfInBounds_toArray, List.set_cons_zero, List.set_cons_succ]
      refine skip_in (i := 13) (oi := ⟨_, _, _, _, _, _⟩) rfl (by kernel_rfl) (by kernel_rfl) (by kernel_rfl) (fun _ _ _ h => h) (by rfl) HB31.out ?_
      simp only [Act.put, List.setIfInBounds_toArray, List.set_cons_zero, List.set_cons_succ]
      refine take_in (i := 14) (oi := ⟨_, _, _, _, _, _⟩) (v := ?_) rfl (by kernel_rfl) (by kernel_rfl) (by kernel_rfl) (fun _ _ _ h => h) (by rfl) ?_ HB31.out ?_
      rotate_left
      · intro W hW; have hq := HKA.out W hW; go_simp; with_reducible rfl
      simp only [Act.put, List.setIfInBounds_toArray, List.set_cons_zero, List.set_cons_succ]
      refine wpAnyH_done (by kernel_rfl) ?_ _
      go_wp2
      go_meet
      case rel => exact ⟨rfl, HB31.out⟩
    | true =>
      have HX := Lib.hid hx; clear hx
      refine wp_region_held_drew (S := fun W' => Below w11.heap.size w11 W') (by kernel_rfl) HBR.out.drew (fun hHeld => ?_)
      generalize w20.drew = w30 at hHeld ⊢
      have HB30 : Hid (Below w11.heap.size w11 w30) := hHeld
      clear hHeld
      refine take_in (i := 0) (oi := ⟨_, _, _, _, _, _⟩) (v := ?_) rfl (by kernel_rfl) (by kernel_rfl) (by kernel_rfl) (fun _ _ _ h => h) (by rfl) ?_ HB30.out ?_
      rotate_left
      · intro W hW; have hq := HKA.out W hW; go_simp; with_reducible rfl
      simp only [Act.put, List.setIfInBounds_toArray, List.set_cons_zero, List.set_cons_succ]
      refine take_in (i := 1) (oi := ⟨_, _, _, _, _, _⟩) (v := ?_) rfl (by kernel_rfl) (by kernel_rfl) (by kernel_rfl) (fun _ _ _ h => h) (by rfl) ?_ HB30.out ?_
      rotate_left
      · intro W hW; have hq := HKA.out W hW; go_simp; with_reducible rfl
      simp only [Act.put, List.setIfInBounds_toArray, List.set_cons_zero, List.set_cons_succ]
      refine wpAnyH_ready (rs := [2]) (by kernel_rfl) (by simp) ?_
      refine AllReadyH.cons (o := ⟨_, _, _, _, _, _⟩) rfl (fun K hK => ?_) AllReadyH.nil
      go_simp
      refine (within_c a d ha hd f g hf hg _).mono ?_
      rw [HX.out]
      rintro e w31 ⟨rfl, hb31⟩
      have HB31 := Lib.hid (HB30.out.trans (hb31.mono HB30.out.size)); clear hb31
      refine hK.out _ _ HB31.out (fun _ => ?_)
      clear hK K
      refine take_in (i := 3) (oi := ⟨_, _, _, _, _, _⟩) (v := ?_) rfl (by kernel_rfl) (by kernel_rfl) (by kernel_rfl) (fun _ _ _ h => h) (by rfl) ?_ HB31.out ?_
      rotate_left
      · intro W hW; have hq := HKA.out W hW; go_simp; with_reducible rfl
      simp only [Act.put, List.setIfInBounds_toArray, List.set_cons_zero, List.set_cons_succ]
      refine take_in (i := 4) (oi := ⟨_, _, _, _, _, _⟩) (v := ?_) rfl (by kernel_rfl) (by kernel_rfl) (by kernel_rfl) (fun _ _ _ h => h) (by rfl) ?_ HB31.out ?_
      rotate_left
      · intro W hW; have hq := HKA.out W hW; go_simp; with_reducible rfl
      simp only [Act.put, List.setIfInBounds_toArray, List.set_cons_zero, List.set_cons_succ]
      refine take_in (i := 5) (oi := ⟨_, _, _, _, _, _⟩) (v := ?_) rfl (by kernel_rfl) (by kernel_rfl) (by kernel_rfl) (fun _ _ _ h => h) (by rfl) ?_ HB31.out ?_
      rotate_left
      · intro W hW; have hq := HKA.out W hW; go_simp; with_reducible rfl
      simp only [Act.put, List.setIfInBounds_toArray, List.set_cons_zero, List.set_cons_succ]
      refine take_in (i := 7) (oi := ⟨_, _, _, _, _, _⟩) (v := ?_) rfl (by kernel_rfl) (by kernel_rfl) (by kernel_rfl) (fun _ _ _ h => h) (by rfl) ?_ HB31.out ?_
      rotate_left
      · intro W hW; have hq := HKA.out W hW; go_simp; with_reducible rfl
      simp only [Act.put, List.setIfInBounds_toArray, List.set_cons_zero, List.set_cons_succ]
      refine take_in (i := 8) (oi := ⟨_, _, _, _, _, _⟩) (v := ?_) rfl (by kernel_rfl) (by kernel_rfl) (by kernel_rfl) (fun _ _ _ h => h) (by rfl) ?_ HB31.out ?_
      rotate_left
      · intro W hW; have hq := HKA.out W hW; go_simp; with_reducible rfl
      simp only [Act.put, List.setIfInBounds_toArray, List.set_cons_zero, List.set_cons_succ]
      refine take_in (i := 11) (oi := ⟨_, _, _, _, _, _⟩) (v := ?_) rfl (by kernel_rfl) (by kernel_rfl) (by kernel_rfl) (fun _ _ _ h => h) (by rfl) ?_ HB31.out ?_
      rotate_left
      · intro W hW; have hq := HKA.out W hW; go_simp; with_reducible rfl
      simp only [Act.put, List.setIfInBounds_toArray, List.set_cons_zero, List.set_cons_succ]
      refine wpAnyH_ready (rs := [6, 9]) (by kernel_rfl) (by simp) ?_
      refine AllReadyH.cons (o := ⟨_, _, _, _, _, _⟩) rfl (fun K hK => ?_) (AllReadyH.cons (o := ⟨_, _, _, _, _, _⟩) rfl (fun K hK => ?_) AllReadyH.nil)
      · go_simp
        refine (within_c b c hb hc f g hf hg _).mono ?_
        rintro e w32 ⟨rfl, hb32⟩
        have HB32 := Lib.hid (HB31.out.trans (hb32.mono HB31.out.size)); clear hb32
        refine hK.out _ _ HB32.out (fun _ => ?_)
        clear hK K
        refine wpAnyH_ready (rs := [9]) (by kernel_rfl) (by simp) ?_
        refine AllReadyH.cons (o := ⟨_, _, _, _, _, _⟩) rfl (fun K hK => ?_) AllReadyH.nil
        go_simp
        refine hK.out _ _ (bal HB32.out (Nat.le_refl _) _) (fun _ => ?_)
        clear hK K
        have RD := Lib.hid ((show Rv (w32.alloc (.cells #[.int .i64 (a : Int), .int .i64 (d : Int), .int .i64 (b : Int), .int .i64 (c : Int)] 23)) (w32.heap.size + 1) (some ⟨w32.heap.size, 0, none⟩) [(a, d), (b, c)] from rv_new w32 [(a, d), (b, c)]).more (show w32.heap.size + 1 ≤ (w32.alloc (.cells #[.int .i64 (a : Int), .int .i64 (d : Int), .int .i64 (b : Int), .int .i64 (c : Int)] 23)).heap.size by simp))
        have HB33 := Lib.hid (bal HB32.out (Nat.le_refl _) (.cells #[.int .i64 (a : Int), .int .i64 (d : Int), .int .i64 (b : Int), .int .i64 (c : Int)] 23))
        generalize w32.alloc (.cells #[.int .i64 (a : Int), .int .i64 (d : Int), .int .i64 (b : Int), .int .i64 (c : Int)] 23) = w33 at RD HB33 ⊢
        generalize w32.heap.size = gRD at RD ⊢
        refine wpAnyH_ready (rs := [10]) (by kernel_rfl) (by simp) ?_
        refine AllReadyH.cons (o := ⟨_, _, _, _, _, _⟩) rfl (fun K hK => ?_) AllReadyH.nil
        go_simp
        refine (join_c _ 2 2 [(a, d), (b, c)] rfl (by omega) (by simp; omega) w33.heap.size _ RD.out (Nat.le_refl _)).mono ?_
        rw [J5.out]
        rintro e w34 ⟨rfl, hb34⟩
        have HB34 := Lib.hid (HB33.out.trans (hb34.mono HB33.out.size)); clear hb34
        refine hK.out _ _ HB34.out (fun _ => ?_)
        clear hK K
        unfold vw
        refine wpAnyH_ready (rs := [12]) (by kernel_rfl) (by simp) ?_
        refine AllReadyH.cons (o := ⟨_, _, _, _, _, _⟩) rfl (fun K hK => ?_) AllReadyH.nil
        go_simp
        refine (within_c r s hr64 hs64 f g hf hg _).mono ?_
        rw [K3.out HX.out]
        rintro e w35 ⟨rfl, hb35⟩
        have HB35 := Lib.hid (HB34.out.trans (hb35.mono HB34.out.size)); clear hb35
        refine hK.out _ _ HB35.out (fun _ => ?_)
        clear hK K
        refine take_in (i := 13) (oi := ⟨_, _, _, _, _, _⟩) (v := ?_) rfl (by kernel_rfl) (by kernel_rfl) (by kernel_rfl) (fun _ _ _ h => h) (by rfl) ?_ HB35.out ?_
        rotate_left
        · intro W hW; have hq := HKA.out W hW; go_simp; with_reducible rfl
        simp only [Act.put, List.setIfInBounds_toArray, List.set_cons_zero, List.set_cons_succ]
        refine take_in (i := 14) (oi := ⟨_, _, _, _, _, _⟩) (v := ?_) rfl (by kernel_rfl) (by kernel_rfl) (by kernel_rfl) (fun _ _ _ h => h) (by rfl) ?_ HB35.out ?_
        rotate_left
        · intro W hW; have hq := HKA.out W hW; go_simp; with_reducible rfl
        simp only [Act.put, List.setIfInBounds_toArray, List.set_cons_zero, List.set_cons_succ]
        refine wpAnyH_done (by kernel_rfl) ?_ _
        go_wp2
        go_meet
        case rel => exact ⟨rfl, HB35.out⟩
      · go_simp
        refine hK.out _ _ (bal HB31.out (Nat.le_refl _) _) (fun _ => ?_)
        clear hK K
        have RD := Lib.hid ((show Rv (w31.alloc (.cells #[.int .i64 (a : Int), .int .i64 (d : Int), .int .i64 (b : Int), .int .i64 (c : Int)] 23)) (w31.heap.size + 1) (some ⟨w31.heap.size, 0, none⟩) [(a, d), (b, c)] from rv_new w31 [(a, d), (b, c)]).more (show w31.heap.size + 1 ≤ (w31.alloc (.cells #[.int .i64 (a : Int), .int .i64 (d : Int), .int .i64 (b : Int), .int .i64 (c : Int)] 23)).heap.size by simp))
        have HB32 := Lib.hid (bal HB31.out (Nat.le_refl _) (.cells #[.int .i64 (a : Int), .int .i64 (d : Int), .int .i64 (b : Int), .int .i64 (c : Int)] 23))
        generalize w31.alloc (.cells #[.int .i64 (a : Int), .int .i64 (d : Int), .int .i64 (b : Int), .int .i64 (c : Int)] 23) = w32 at RD HB32 ⊢
        generalize w31.heap.size = gRD at RD ⊢
        refine wpAnyH_ready (rs := [6]) (by kernel_rfl) (by simp) ?_
        refine AllReadyH.cons (o := ⟨_, _, _, _, _, _⟩) rfl (fun K hK => ?_) AllReadyH.nil
        go_simp
        refine (within_c b c hb hc f g hf hg _).mono ?_
        rintro e w33 ⟨rfl, hb33⟩
        have RD := Lib.hid ((RD.out.below hb33).more hb33.size)
        have HB33 := Lib.hid (HB32.out.trans (hb33.mono HB32.out.size)); clear hb33
        refine hK.out _ _ HB33.out (fun _ => ?_)
        clear hK K
        refine wpAnyH_ready (rs := [10]) (by kernel_rfl) (by simp) ?_
        refine AllReadyH.cons (o := ⟨_, _, _, _, _, _⟩) rfl (fun K hK => ?_) AllReadyH.nil
        go_simp
        refine (join_c _ 2 2 [(a, d), (b, c)] rfl (by omega) (by simp; omega) w33.heap.size _ RD.out (Nat.le_refl _)).mono ?_
        rw [J5.out]
        rintro e w34 ⟨rfl, hb34⟩
        have HB34 := Lib.hid (HB33.out.trans (hb34.mono HB33.out.size)); clear hb34
        refine hK.out _ _ HB34.out (fun _ => ?_)
        clear hK K
        unfold vw
        refine wpAnyH_ready (rs := [12]) (by kernel_rfl) (by simp) ?_
        refine AllReadyH.cons (o := ⟨_, _, _, _, _, _⟩) rfl (fun K hK => ?_) AllReadyH.nil
        go_simp
        refine (within_c r s hr64 hs64 f g hf hg _).mono ?_
        rw [K3.out HX.out]
        rintro e w35 ⟨rfl, hb35⟩
        have HB35 := Lib.hid (HB34.out.trans (hb35.mono HB34.out.size)); clear hb35
        refine hK.out _ _ HB35.out (fun _ => ?_)
        clear hK K
        refine take_in (i := 13) (oi := ⟨_, _, _, _, _, _⟩) (v := ?_) rfl (by kernel_rfl) (by kernel_rfl) (by kernel_rfl) (fun _ _ _ h => h) (by rfl) ?_ HB35.out ?_
        rotate_left
        · intro W hW; have hq := HKA.out W hW; go_simp; with_reducible rfl
        simp only [Act.put, List.setIfInBounds_toArray, List.set_cons_zero, List.set_cons_succ]
        refine take_in (i := 14) (oi := ⟨_, _, _, _, _, _⟩) (v := ?_) rfl (by kernel_rfl) (by kernel_rfl) (by kernel_rfl) (fun _ _ _ h => h) (by rfl) ?_ HB35.out ?_
        rotate_left
        · intro W hW; have hq := HKA.out W hW; go_simp; with_reducible rfl
        simp only [Act.put, List.setIfInBounds_toArray, List.set_cons_zero, List.set_cons_succ]
        refine wpAnyH_done (by kernel_rfl) ?_ _
        go_wp2
        go_meet
        case rel => exact ⟨rfl, HB35.out⟩
  case rest =>
    obtain ⟨rfl, hbc⟩ := hcut
    have HBC := Lib.hid hbc; clear hbc
    have hq := HKA.out wc HBC.out
    go_wp2_with fail
    refine (minus_c a d ha hd b c hb hc _).mono ?_
    rw [K4.out.1, K4.out.2.1]
    rintro e w40 ⟨rfl, hb40⟩
    have HB40 := Lib.hid (HBC.out.trans (hb40.mono HBC.out.size)); clear hb40 hq
    unfold vw
    go_wp2
    have V8 := Lib.hid (show Vi (w40.alloc (.cells #[.int .i64 (m : Int), .int .i64 (n : Int)] 23)) w40.heap.size m n from hat _ _ _ rfl)
    have HB41 := Lib.hid (bal HB40.out (Nat.le_refl _) (.cells #[.int .i64 (m : Int), .int .i64 (n : Int)] 23))
    generalize w40.alloc (.cells #[.int .i64 (m : Int), .int .i64 (n : Int)] 23) = w41 at V8 HB41 ⊢
    generalize w40.heap.size = g8 at V8 ⊢
    have HKB : Hid (∀ W', Below w41.heap.size w41 W' → (W'.cell? ⟨w.heap.size, 0, none⟩ = some (.int .i64 (a : Int)) ∧ W'.cell? ⟨w.heap.size, 1, none⟩ = some (.int .i64 (d : Int)) ∧ W'.cell? ⟨w.heap.size + 1, 0, none⟩ = some (.int .i64 (b : Int)) ∧ W'.cell? ⟨w.heap.size + 1, 1, none⟩ = some (.int .i64 (c : Int)) ∧ W'.cell? ⟨w.heap.size + 1 + 1, 0, none⟩ = some (.int .i64 (f : Int)) ∧ W'.cell? ⟨w.heap.size + 1 + 1, 1, none⟩ = some (.int .i64 (g : Int))) ∧ W'.cell? ⟨g8, 0, none⟩ = some (.int .i64 (m : Int)) ∧ W'.cell? ⟨g8, 1, none⟩ = some (.int .i64 (n : Int))) := Lib.hid (by
      intro W' h
      have V8 := V8.out.below h
      exact ⟨(HKA.out W' (HB41.out.trans (h.mono HB41.out.size))).1, V8.c0, V8.c1⟩)
    refine wp_region_held_drew (S := fun W' => Below w41.heap.size w41 W') (by kernel_rfl) (Below.refl _ _).drew (fun hHeld => ?_)
    generalize w41.drew = w50 at hHeld ⊢
    have HB50 : Hid (Below w41.heap.size w41 w50) := hHeld
    clear hHeld
    obtain ⟨k1, hk1⟩ : ∃ k1, cnt b + cnt c = k1 := ⟨_, rfl⟩
    obtain ⟨k2, hk2⟩ : ∃ k2, cnt m + cnt n = k2 := ⟨_, rfl⟩
    have hwr : IntKind.i64.wrap ((k1 : Int) + (k2 : Int)) = (k1 : Int) + (k2 : Int) := IntWalk.i64_in _ (by have := cnt_le b; have := cnt_le c; have := cnt_le m; have := cnt_le n; omega)
    have HC1 := Lib.hid hk1; have HC2 := Lib.hid hk2
    clear hk1 hk2
    refine take_in (i := 0) (oi := ⟨_, _, _, _, _, _⟩) (v := ?_) rfl (by kernel_rfl) (by kernel_rfl) (by kernel_rfl) (fun _ _ _ h => h) (by rfl) ?_ HB50.out ?_
    rotate_left
    · intro W hW; have hq := HKB.out W hW; go_simp; with_reducible rfl
    simp only [Act.put, List.setIfInBounds_toArray, List.set_cons_zero, List.set_cons_succ]
    refine take_in (i := 1) (oi := ⟨_, _, _, _, _, _⟩) (v := ?_) rfl (by kernel_rfl) (by kernel_rfl) (by kernel_rfl) (fun _ _ _ h => h) (by rfl) ?_ HB50.out ?_
    rotate_left
    · intro W hW; have hq := HKB.out W hW; go_simp; with_reducible rfl
    simp only [Act.put, List.setIfInBounds_toArray, List.set_cons_zero, List.set_cons_succ]
    refine take_in (i := 3) (oi := ⟨_, _, _, _, _, _⟩) (v := ?_) rfl (by kernel_rfl) (by kernel_rfl) (by kernel_rfl) (fun _ _ _ h => h) (by rfl) ?_ HB50.out ?_
    rotate_left
    · intro W hW; have hq := HKB.out W hW; go_simp; with_reducible rfl
    simp only [Act.put, List.setIfInBounds_toArray, List.set_cons_zero, List.set_cons_succ]
    refine take_in (i := 6) (oi := ⟨_, _, _, _, _, _⟩) (v := ?_) rfl (by kernel_rfl) (by kernel_rfl) (by kernel_rfl) (fun _ _ _ h => h) (by rfl) ?_ HB50.out ?_
    rotate_left
    · intro W hW; have hq := HKB.out W hW; go_simp; with_reducible rfl
    simp only [Act.put, List.setIfInBounds_toArray, List.set_cons_zero, List.set_cons_succ]
    refine take_in (i := 7) (oi := ⟨_, _, _, _, _, _⟩) (v := ?_) rfl (by kernel_rfl) (by kernel_rfl) (by kernel_rfl) (fun _ _ _ h => h) (by rfl) ?_ HB50.out ?_
    rotate_left
    · intro W hW; have hq := HKB.out W hW; go_simp; with_reducible rfl
    simp only [Act.put, List.setIfInBounds_toArray, List.set_cons_zero, List.set_cons_succ]
    refine wpAnyH_ready (rs := [2, 8]) (by kernel_rfl) (by simp) ?_
    refine AllReadyH.cons (o := ⟨_, _, _, _, _, _⟩) rfl (fun K hK => ?_) (AllReadyH.cons (o := ⟨_, _, _, _, _, _⟩) rfl (fun K hK => ?_) AllReadyH.nil)
    · go_simp
      refine (minus_c a d ha hd b c hb hc _).mono ?_
      rw [K4.out.1, K4.out.2.1]
      rintro e w51 ⟨rfl, hb51⟩
      have HB51 := Lib.hid (HB50.out.trans (hb51.mono HB50.out.size)); clear hb51
      refine hK.out _ _ HB51.out (fun _ => ?_)
      clear hK K
      unfold vw
      refine wpAnyH_ready (rs := [4, 8]) (by kernel_rfl) (by simp) ?_
      refine AllReadyH.cons (o := ⟨_, _, _, _, _, _⟩) rfl (fun K hK => ?_) (AllReadyH.cons (o := ⟨_, _, _, _, _, _⟩) rfl (fun K hK => ?_) AllReadyH.nil)
      · go_simp
        refine hK.out _ _ (bal HB51.out (Nat.le_refl _) _) (fun _ => ?_)
        clear hK K
        have RE := Lib.hid ((show Rv (w51.alloc (.cells #[.int .i64 (m : Int), .int .i64 (n : Int), .int .i64 (b : Int), .int .i64 (c : Int)] 23)) (w51.heap.size + 1) (some ⟨w51.heap.size, 0, none⟩) [(m, n), (b, c)] from rv_new w51 [(m, n), (b, c)]).more (show w51.heap.size + 1 ≤ (w51.alloc (.cells #[.int .i64 (m : Int), .int .i64 (n : Int), .int .i64 (b : Int), .int .i64 (c : Int)] 23)).heap.size by simp))
        have HB52 := Lib.hid (bal HB51.out (Nat.le_refl _) (.cells #[.int .i64 (m : Int), .int .i64 (n : Int), .int .i64 (b : Int), .int .i64 (c : Int)] 23))
        generalize w51.alloc (.cells #[.int .i64 (m : Int), .int .i64 (n : Int), .int .i64 (b : Int), .int .i64 (c : Int)] 23) = w52 at RE HB52 ⊢
        generalize w51.heap.size = gRE at RE ⊢
        refine wpAnyH_ready (rs := [5, 8]) (by kernel_rfl) (by simp) ?_
        refine AllReadyH.cons (o := ⟨_, _, _, _, _, _⟩) rfl (fun K hK => ?_) (AllReadyH.cons (o := ⟨_, _, _, _, _, _⟩) rfl (fun K hK => ?_) AllReadyH.nil)
        · go_simp
          refine (join_c _ 2 2 [(m, n), (b, c)] rfl (by omega) (by simp; omega) w52.heap.size _ RE.out (Nat.le_refl _)).mono ?_
          rw [J6.out]
          rintro e w53 ⟨rfl, hb53⟩
          have HB53 := Lib.hid (HB52.out.trans (hb53.mono HB52.out.size)); clear hb53
          refine hK.out _ _ HB53.out (fun _ => ?_)
          clear hK K
          unfold vw
          refine wpAnyH_ready (rs := [8]) (by kernel_rfl) (by simp) ?_
          refine AllReadyH.cons (o := ⟨_, _, _, _, _, _⟩) rfl (fun K hK => ?_) AllReadyH.nil
          go_simp
          refine hK.out _ _ (bal HB53.out (Nat.le_refl _) _) (fun _ => ?_)
          clear hK K
          have RF := Lib.hid ((show Rv (w53.alloc (.cells #[.int .i64 (a : Int), .int .i64 (d : Int), .int .i64 (b : Int), .int .i64 (c : Int)] 23)) (w53.heap.size + 1) (some ⟨w53.heap.size, 0, none⟩) [(a, d), (b, c)] from rv_new w53 [(a, d), (b, c)]).more (show w53.heap.size + 1 ≤ (w53.alloc (.cells #[.int .i64 (a : Int), .int .i64 (d : Int), .int .i64 (b : Int), .int .i64 (c : Int)] 23)).heap.size by simp))
          have HB54 := Lib.hid (bal HB53.out (Nat.le_refl _) (.cells #[.int .i64 (a : Int), .int .i64 (d : Int), .int .i64 (b : Int), .int .i64 (c : Int)] 23))
          generalize w53.alloc (.cells #[.int .i64 (a : Int), .int .i64 (d : Int), .int .i64 (b : Int), .int .i64 (c : Int)] 23) = w54 at RF HB54 ⊢
          generalize w53.heap.size = gRF at RF ⊢
          refine wpAnyH_ready (rs := [9]) (by kernel_rfl) (by simp) ?_
          refine AllReadyH.cons (o := ⟨_, _, _, _, _, _⟩) rfl (fun K hK => ?_) AllReadyH.nil
          go_simp
          refine (join_c _ 2 2 [(a, d), (b, c)] rfl (by omega) (by simp; omega) w54.heap.size _ RF.out (Nat.le_refl _)).mono ?_
          rw [J5.out]
          rintro e w55 ⟨rfl, hb55⟩
          have HB55 := Lib.hid (HB54.out.trans (hb55.mono HB54.out.size)); clear hb55
          refine hK.out _ _ HB55.out (fun _ => ?_)
          clear hK K
          unfold vw
          refine take_in (i := 10) (oi := ⟨_, _, _, _, _, _⟩) (v := ?_) rfl (by kernel_rfl) (by kernel_rfl) (by kernel_rfl) (fun _ _ _ h => h) (by rfl) ?_ HB55.out ?_
          rotate_left
          · intro W hW; have hq := HKB.out W hW; go_simp; with_reducible rfl
          simp only [Act.put, List.setIfInBounds_toArray, List.set_cons_zero, List.set_cons_succ]
          refine take_in (i := 11) (oi := ⟨_, _, _, _, _, _⟩) (v := ?_) rfl (by kernel_rfl) (by kernel_rfl) (by kernel_rfl) (fun _ _ _ h => h) (by rfl) ?_ HB55.out ?_
          rotate_left
          · intro W hW; have hq := HKB.out W hW; go_simp; with_reducible rfl
          simp only [Act.put, List.setIfInBounds_toArray, List.set_cons_zero, List.set_cons_succ]
          refine take_in (i := 12) (oi := ⟨_, _, _, _, _, _⟩) (v := ?_) rfl (by kernel_rfl) (by kernel_rfl) (by kernel_rfl) (fun _ _ _ h => h) (by rfl) ?_ HB55.out ?_
          rotate_left
          · intro W hW; have hq := HKB.out W hW; go_simp; with_reducible rfl
          simp only [Act.put, List.setIfInBounds_toArray, List.set_cons_zero, List.set_cons_succ]
          refine take_in (i := 13) (oi := ⟨_, _, _, _, _, _⟩) (v := ?_) rfl (by kernel_rfl) (by kernel_rfl) (by kernel_rfl) (fun _ _ _ h => h) (by rfl) ?_ HB55.out ?_
          rotate_left
          · intro W hW; have hq := HKB.out W hW; go_simp; with_reducible rfl
          simp only [Act.put, List.setIfInBounds_toArray, List.set_cons_zero, List.set_cons_succ]
          refine take_in (i := 15) (oi := ⟨_, _, _, _, _, _⟩) (v := ?_) rfl (by kernel_rfl) (by kernel_rfl) (by kernel_rfl) (fun _ _ _ h => h) (by rfl) ?_ HB55.out ?_
          rotate_left
          · intro W hW; have hq := HKB.out W hW; go_simp; with_reducible rfl
          simp only [Act.put, List.setIfInBounds_toArray, List.set_cons_zero, List.set_cons_succ]
          refine wpAnyH_ready (rs := [14]) (by kernel_rfl) (by simp) ?_
          refine AllReadyH.cons (o := ⟨_, _, _, _, _, _⟩) rfl (fun K hK => ?_) AllReadyH.nil
          go_simp
          refine (minus_c m n hm64 hn64 b c hb hc _).mono ?_
          rw [K4.out.2.2.1, K4.out.2.2.2]
          rintro e w56 ⟨rfl, hb56⟩
          have HB56 := Lib.hid (HB55.out.trans (hb56.mono HB55.out.size)); clear hb56
          refine hK.out _ _ HB56.out (fun _ => ?_)
          clear hK K
          unfold vw
          refine take_in (i := 16) (oi := ⟨_, _, _, _, _, _⟩) (v := ?_) rfl (by kernel_rfl) (by kernel_rfl) (by kernel_rfl) (fun _ _ _ h => h) (by rfl) ?_ HB56.out ?_
          rotate_left
          · intro W hW; have hq := HKB.out W hW; go_simp; with_reducible rfl
          simp only [Act.put, List.setIfInBounds_toArray, List.set_cons_zero, List.set_cons_succ]
          refine take_in (i := 17) (oi := ⟨_, _, _, _, _, _⟩) (v := ?_) rfl (by kernel_rfl) (by kernel_rfl) (by kernel_rfl) (fun _ _ _ h => h) (by rfl) ?_ HB56.out ?_
          rotate_left
          · intro W hW; have hq := HKB.out W hW; go_simp; with_reducible rfl
          simp only [Act.put, List.setIfInBounds_toArray, List.set_cons_zero, List.set_cons_succ]
          refine take_in (i := 18) (oi := ⟨_, _, _, _, _, _⟩) (v := ?_) rfl (by kernel_rfl) (by kernel_rfl) (by kernel_rfl) (fun _ _ _ h => h) (by rfl) ?_ HB56.out ?_
          rotate_left
          · intro W hW; have hq := HKB.out W hW; go_simp; with_reducible rfl
          simp only [Act.put, List.setIfInBounds_toArray, List.set_cons_zero, List.set_cons_succ]
          refine take_in (i := 19) (oi := ⟨_, _, _, _, _, _⟩) (v := ?_) rfl (by kernel_rfl) (by kernel_rfl) (by kernel_rfl) (fun _ _ _ h => h) (by rfl) ?_ HB56.out ?_
          rotate_left
          · intro W hW; have hq := HKB.out W hW; go_simp; with_reducible rfl
          simp only [Act.put, List.setIfInBounds_toArray, List.set_cons_zero, List.set_cons_succ]
          refine take_in (i := 20) (oi := ⟨_, _, _, _, _, _⟩) (v := ?_) rfl (by kernel_rfl) (by kernel_rfl) (by kernel_rfl) (fun _ _ _ h => h) (by rfl) ?_ HB56.out ?_
          rotate_left
          · intro W hW; have hq := HKB.out W hW; go_simp; with_reducible rfl
          simp only [Act.put, List.setIfInBounds_toArray, List.set_cons_zero, List.set_cons_succ]
          refine take_in (i := 24) (oi := ⟨_, _, _, _, _, _⟩) (v := ?_) rfl (by kernel_rfl) (by kernel_rfl) (by kernel_rfl) (fun _ _ _ h => h) (by rfl) ?_ HB56.out ?_
          rotate_left
          · intro W hW; have hq := HKB.out W hW; go_simp; with_reducible rfl
          simp only [Act.put, List.setIfInBounds_toArray, List.set_cons_zero, List.set_cons_succ]
          refine take_in (i := 26) (oi := ⟨_, _, _, _, _, _⟩) (v := ?_) rfl (by kernel_rfl) (by kernel_rfl) (by kernel_rfl) (fun _ _ _ h => h) (by rfl) ?_ HB56.out ?_
          rotate_left
          · intro W hW; have hq := HKB.out W hW; go_simp; with_reducible rfl
          simp only [Act.put, List.setIfInBounds_toArray, List.set_cons_zero, List.set_cons_succ]
          refine wpAnyH_ready (rs := [21]) (by kernel_rfl) (by simp) ?_
          refine AllReadyH.cons (o := ⟨_, _, _, _, _, _⟩) rfl (fun K hK => ?_) AllReadyH.nil
          go_simp
          refine hK.out _ _ (bal HB56.out (Nat.le_refl _) _) (fun _ => ?_)
          clear hK K
          have RG := Lib.hid ((show Rv (w56.alloc (.cells #[.int .i64 (a : Int), .int .i64 (d : Int), .int .i64 (b : Int), .int .i64 (c : Int)] 23)) (w56.heap.size + 1) (some ⟨w56.heap.size, 0, none⟩) [(a, d), (b, c)] from rv_new w56 [(a, d), (b, c)]).more (show w56.heap.size + 1 ≤ (w56.alloc (.cells #[.int .i64 (a : Int), .int .i64 (d : Int), .int .i64 (b : Int), .int .i64 (c : Int)] 23)).heap.size by simp))
          have HB57 := Lib.hid (bal HB56.out (Nat.le_refl _) (.cells #[.int .i64 (a : Int), .int .i64 (d : Int), .int .i64 (b : Int), .int .i64 (c : Int)] 23))
          generalize w56.alloc (.cells #[.int .i64 (a : Int), .int .i64 (d : Int), .int .i64 (b : Int), .int .i64 (c : Int)] 23) = w57 at RG HB57 ⊢
          generalize w56.heap.size = gRG at RG ⊢
          refine wpAnyH_ready (rs := [22]) (by kernel_rfl) (by simp) ?_
          refine AllReadyH.cons (o := ⟨_, _, _, _, _, _⟩) rfl (fun K hK => ?_) AllReadyH.nil
          go_simp
          refine (join_c _ 2 2 [(a, d), (b, c)] rfl (by omega) (by simp; omega) w57.heap.size _ RG.out (Nat.le_refl _)).mono ?_
          rw [J5.out]
          rintro e w58 ⟨rfl, hb58⟩
          have HB58 := Lib.hid (HB57.out.trans (hb58.mono HB57.out.size)); clear hb58
          refine hK.out _ _ HB58.out (fun _ => ?_)
          clear hK K
          unfold vw
          refine wpAnyH_ready (rs := [23]) (by kernel_rfl) (by simp) ?_
          refine AllReadyH.cons (o := ⟨_, _, _, _, _, _⟩) rfl (fun K hK => ?_) AllReadyH.nil
          go_simp
          refine (size_c r s hr64 hs64 _).mono ?_
          rw [K5.out, HC1.out, HC2.out]
          rintro e w59 ⟨rfl, hb59⟩
          have HB59 := Lib.hid (HB58.out.trans (hb59.mono HB58.out.size)); clear hb59
          refine hK.out _ _ HB59.out (fun _ => ?_)
          clear hK K
          refine wpAnyH_ready (rs := [25]) (by kernel_rfl) (by simp) ?_
          refine AllReadyH.cons (o := ⟨_, _, _, _, _, _⟩) rfl (fun K hK => ?_) AllReadyH.nil
          go_simp
          refine (size_c b c hb hc _).mono ?_
          rw [HC1.out]
          rintro e w60 ⟨rfl, hb60⟩
          have HB60 := Lib.hid (HB59.out.trans (hb60.mono HB59.out.size)); clear hb60
          refine hK.out _ _ HB60.out (fun _ => ?_)
          clear hK K
          refine wpAnyH_ready (rs := [27]) (by kernel_rfl) (by simp) ?_
          refine AllReadyH.cons (o := ⟨_, _, _, _, _, _⟩) rfl (fun K hK => ?_) AllReadyH.nil
          go_simp
          refine (size_c m n hm64 hn64 _).mono ?_
          rw [HC2.out]
          rintro e w61 ⟨rfl, hb61⟩
          have HB61 := Lib.hid (HB60.out.trans (hb61.mono HB60.out.size)); clear hb61
          refine hK.out _ _ HB61.out (fun _ => ?_)
          clear hK K
          refine take_in (i := 28) (oi := ⟨_, _, _, _, _, _⟩) (v := ?_) rfl (by kernel_rfl) (by kernel_rfl) (by kernel_rfl) (fun _ _ _ h => h) (by rfl) ?_ HB61.out ?_
          rotate_left
          · intro W hW; have hq := HKB.out W hW; go_simp; with_reducible rfl
          simp only [Act.put, List.setIfInBounds_toArray, List.set_cons_zero, List.set_cons_succ]
          refine take_in (i := 29) (oi := ⟨_, _, _, _, _, _⟩) (v := ?_) rfl (by kernel_rfl) (by kernel_rfl) (by kernel_rfl) (fun _ _ _ h => h) (by rfl) ?_ HB61.out ?_
          rotate_left
          · intro W hW; have hq := HKB.out W hW; go_simp; with_reducible rfl
          simp only [Act.put, List.setIfInBounds_toArray, List.set_cons_zero, List.set_cons_succ]
          refine take_in (i := 30) (oi := ⟨_, _, _, _, _, _⟩) (v := ?_) rfl (by kernel_rfl) (by kernel_rfl) (by kernel_rfl) (fun _ _ _ h => h) (by rfl) ?_ HB61.out ?_
          rotate_left
          · intro W hW; have hq := HKB.out W hW; go_simp; with_reducible rfl
          simp only [Act.put, List.setIfInBounds_toArray, List.set_cons_zero, List.set_cons_succ]
          refine take_in (i := 31) (oi := ⟨_, _, _, _, _, _⟩) (v := ?_) rfl (by kernel_rfl) (by kernel_rfl) (by kernel_rfl) (fun _ _ _ h => h) (by rfl) ?_ HB61.out ?_
          rotate_left
          · intro W hW; have hq := HKB.out W hW; go_simp; with_reducible rfl
          simp only [Act.put, List.setIfInBounds_toArray, List.set_cons_zero, List.set_cons_succ]
          refine wpAnyH_done (by kernel_rfl) ?_ _
          go_wp2
          go_ret
          exact ⟨rfl, HB.out.trans ((HB11.out.trans ((HB41.out.trans (HB61.out.mono HB41.out.size)).mono HB11.out.size)).mono HB.out.size)⟩
        · go_simp
          refine hK.out _ _ (bal HB52.out (Nat.le_refl _) _) (fun _ => ?_)
          clear hK K
          have RE := Lib.hid ((RE.out.below ((Below.refl _ _).alloc (Nat.le_refl _) (.cells #[.int .i64 (a : Int), .int .i64 (d : Int), .int .i64 (b : Int), .int .i64 (c : Int)] 23))).more (show w52.heap.size ≤ (w52.alloc (.cells #[.int .i64 (a : Int), .int .i64 (d : Int), .int .i64 (b : Int), .int .i64 (c : Int)] 23)).heap.size by simp))
          have RF := Lib.hid ((show Rv (w52.alloc (.cells #[.int .i64 (a : Int), .int .i64 (d : Int), .int .i64 (b : Int), .int .i64 (c : Int)] 23)) (w52.heap.size + 1) (some ⟨w52.heap.size, 0, none⟩) [(a, d), (b, c)] from rv_new w52 [(a, d), (b, c)]).more (show w52.heap.size + 1 ≤ (w52.alloc (.cells #[.int .i64 (a : Int), .int .i64 (d : Int), .int .i64 (b : Int), .int .i64 (c : Int)] 23)).heap.size by simp))
          have HB53 := Lib.hid (bal HB52.out (Nat.le_refl _) (.cells #[.int .i64 (a : Int), .int .i64 (d : Int), .int .i64 (b : Int), .int .i64 (c : Int)] 23))
          generalize w52.alloc (.cells #[.int .i64 (a : Int), .int .i64 (d : Int), .int .i64 (b : Int), .int .i64 (c : Int)] 23) = w53 at RE RF HB53 ⊢
          generalize w52.heap.size = gRF at RF ⊢
          refine wpAnyH_ready (rs := [5]) (by kernel_rfl) (by simp) ?_
          refine AllReadyH.cons (o := ⟨_, _, _, _, _, _⟩) rfl (fun K hK => ?_) AllReadyH.nil
          go_simp
          refine (join_c _ 2 2 [(m, n), (b, c)] rfl (by omega) (by simp; omega) w53.heap.size _ RE.out (Nat.le_refl _)).mono ?_
          rw [J6.out]
          rintro e w54 ⟨rfl, hb54⟩
          have RF := Lib.hid ((RF.out.below hb54).more hb54.size)
          have HB54 := Lib.hid (HB53.out.trans (hb54.mono HB53.out.size)); clear hb54
          refine hK.out _ _ HB54.out (fun _ => ?_)
          clear hK K
          unfold vw
          refine wpAnyH_ready (rs := [9]) (by kernel_rfl) (by simp) ?_
          refine AllReadyH.cons (o := ⟨_, _, _, _, _, _⟩) rfl (fun K hK => ?_) AllReadyH.nil
          go_simp
          refine (join_c _ 2 2 [(a, d), (b, c)] rfl (by omega) (by simp; omega) w54.heap.size _ RF.out (Nat.le_refl _)).mono ?_
          rw [J5.out]
          rintro e w55 ⟨rfl, hb55⟩
          have HB55 := Lib.hid (HB54.out.trans (hb55.mono HB54.out.size)); clear hb55
          refine hK.out _ _ HB55.out (fun _ => ?_)
          clear hK K
          unfold vw
          refine take_in (i := 10) (oi := ⟨_, _, _, _, _, _⟩) (v := ?_) rfl (by kernel_rfl) (by kernel_rfl) (by kernel_rfl) (fun _ _ _ h => h) (by rfl) ?_ HB55.out ?_
          rotate_left
          · intro W hW; have hq := HKB.out W hW; go_simp; with_reducible rfl
          simp only [Act.put, List.setIfInBounds_toArray, List.set_cons_zero, List.set_cons_succ]
          refine take_in (i := 11) (oi := ⟨_, _, _, _, _, _⟩) (v := ?_) rfl (by kernel_rfl) (by kernel_rfl) (by kernel_rfl) (fun _ _ _ h => h) (by rfl) ?_ HB55.out ?_
          rotate_left
          · intro W hW; have hq := HKB.out W hW; go_simp; with_reducible rfl
          simp only [Act.put, List.setIfInBounds_toArray, List.set_cons_zero, List.set_cons_succ]
          refine take_in (i := 12) (oi := ⟨_, _, _, _, _, _⟩) (v := ?_) rfl (by kernel_rfl) (by kernel_rfl) (by kernel_rfl) (fun _ _ _ h => h) (by rfl) ?_ HB55.out ?_
          rotate_left
          · intro W hW; have hq := HKB.out W hW; go_simp; with_reducible rfl
          simp only [Act.put, List.setIfInBounds_toArray, List.set_cons_zero, List.set_cons_succ]
          refine take_in (i := 13) (oi := ⟨_, _, _, _, _, _⟩) (v := ?_) rfl (by kernel_rfl) (by kernel_rfl) (by kernel_rfl) (fun _ _ _ h => h) (by rfl) ?_ HB55.out ?_
          rotate_left
          · intro W hW; have hq := HKB.out W hW; go_simp; with_reducible rfl
          simp only [Act.put, List.setIfInBounds_toArray, List.set_cons_zero, List.set_cons_succ]
          refine take_in (i := 15) (oi := ⟨_, _, _, _, _, _⟩) (v := ?_) rfl (by kernel_rfl) (by kernel_rfl) (by kernel_rfl) (fun _ _ _ h => h) (by rfl) ?_ HB55.out ?_
          rotate_left
          · intro W hW; have hq := HKB.out W hW; go_simp; with_reducible rfl
          simp only [Act.put, List.setIfInBounds_toArray, List.set_cons_zero, List.set_cons_succ]
          refine wpAnyH_ready (rs := [14]) (by kernel_rfl) (by simp) ?_
          refine AllReadyH.cons (o := ⟨_, _, _, _, _, _⟩) rfl (fun K hK => ?_) AllReadyH.nil
          go_simp
          refine (minus_c m n hm64 hn64 b c hb hc _).mono ?_
          rw [K4.out.2.2.1, K4.out.2.2.2]
          rintro e w56 ⟨rfl, hb56⟩
          have HB56 := Lib.hid (HB55.out.trans (hb56.mono HB55.out.size)); clear hb56
          refine hK.out _ _ HB56.out (fun _ => ?_)
          clear hK K
          unfold vw
          refine take_in (i := 16) (oi := ⟨_, _, _, _, _, _⟩) (v := ?_) rfl (by kernel_rfl) (by kernel_rfl) (by kernel_rfl) (fun _ _ _ h => h) (by rfl) ?_ HB56.out ?_
          rotate_left
          · intro W hW; have hq := HKB.out W hW; go_simp; with_reducible rfl
          simp only [Act.put, List.setIfInBounds_toArray, List.set_cons_zero, List.set_cons_succ]
          refine take_in (i := 17) (oi := ⟨_, _, _, _, _, _⟩) (v := ?_) rfl (by kernel_rfl) (by kernel_rfl) (by kernel_rfl) (fun _ _ _ h => h) (by rfl) ?_ HB56.out ?_
          rotate_left
          · intro W hW; have hq := HKB.out W hW; go_simp; with_reducible rfl
          simp only [Act.put, List.setIfInBounds_toArray, List.set_cons_zero, List.set_cons_succ]
          refine take_in (i := 18) (oi := ⟨_, _, _, _, _, _⟩) (v := ?_) rfl (by kernel_rfl) (by kernel_rfl) (by kernel_rfl) (fun _ _ _ h => h) (by rfl) ?_ HB56.out ?_
          rotate_left
          · intro W hW; have hq := HKB.out W hW; go_simp; with_reducible rfl
          simp only [Act.put, List.setIfInBounds_toArray, List.set_cons_zero, List.set_cons_succ]
          refine take_in (i := 19) (oi := ⟨_, _, _, _, _, _⟩) (v := ?_) rfl (by kernel_rfl) (by kernel_rfl) (by kernel_rfl) (fun _ _ _ h => h) (by rfl) ?_ HB56.out ?_
          rotate_left
          · intro W hW; have hq := HKB.out W hW; go_simp; with_reducible rfl
          simp only [Act.put, List.setIfInBounds_toArray, List.set_cons_zero, List.set_cons_succ]
          refine take_in (i := 20) (oi := ⟨_, _, _, _, _, _⟩) (v := ?_) rfl (by kernel_rfl) (by kernel_rfl) (by kernel_rfl) (fun _ _ _ h => h) (by rfl) ?_ HB56.out ?_
          rotate_left
          · intro W hW; have hq := HKB.out W hW; go_simp; with_reducible rfl
          simp only [Act.put, List.setIfInBounds_toArray, List.set_cons_zero, List.set_cons_succ]
          refine take_in (i := 24) (oi := ⟨_, _, _, _, _, _⟩) (v := ?_) rfl (by kernel_rfl) (by kernel_rfl) (by kernel_rfl) (fun _ _ _ h => h) (by rfl) ?_ HB56.out ?_
          rotate_left
          · intro W hW; have hq := HKB.out W hW; go_simp; with_reducible rfl
          simp only [Act.put, List.setIfInBounds_toArray, List.set_cons_zero, List.set_cons_succ]
          refine take_in (i := 26) (oi := ⟨_, _, _, _, _, _⟩) (v := ?_) rfl (by kernel_rfl) (by kernel_rfl) (by kernel_rfl) (fun _ _ _ h => h) (by rfl) ?_ HB56.out ?_
          rotate_left
          · intro W hW; have hq := HKB.out W hW; go_simp; with_reducible rfl
          simp only [Act.put, List.setIfInBounds_toArray, List.set_cons_zero, List.set_cons_succ]
          refine wpAnyH_ready (rs := [21]) (by kernel_rfl) (by simp) ?_
          refine AllReadyH.cons (o := ⟨_, _, _, _, _, _⟩) rfl (fun K hK => ?_) AllReadyH.nil
          go_simp
          refine hK.out _ _ (bal HB56.out (Nat.le_refl _) _) (fun _ => ?_)
          clear hK K
          have RG := Lib.hid ((show Rv (w56.alloc (.cells #[.int .i64 (a : Int), .int .i64 (d : Int), .int .i64 (b : Int), .int .i64 (c : Int)] 23)) (w56.heap.size + 1) (some ⟨w56.heap.size, 0, none⟩) [(a, d), (b, c)] from rv_new w56 [(a, d), (b, c)]).more (show w56.heap.size + 1 ≤ (w56.alloc (.cells #[.int .i64 (a : Int), .int .i64 (d : Int), .int .i64 (b : Int), .int .i64 (c : Int)] 23)).heap.size by simp))
          have HB57 := Lib.hid (bal HB56.out (Nat.le_refl _) (.cells #[.int .i64 (a : Int), .int .i64 (d : Int), .int .i64 (b : Int), .int .i64 (c : Int)] 23))
          generalize w56.alloc (.cells #[.int .i64 (a : Int), .int .i64 (d : Int), .int .i64 (b : Int), .int .i64 (c : Int)] 23) = w57 at RG HB57 ⊢
          generalize w56.heap.size = gRG at RG ⊢
          refine wpAnyH_ready (rs := [22]) (by kernel_rfl) (by simp) ?_
          refine AllReadyH.cons (o := ⟨_, _, _, _, _, _⟩) rfl (fun K hK => ?_) AllReadyH.nil
          go_simp
          refine (join_c _ 2 2 [(a, d), (b, c)] rfl (by omega) (by simp; omega) w57.heap.size _ RG.out (Nat.le_refl _)).mono ?_
          rw [J5.out]
          rintro e w58 ⟨rfl, hb58⟩
          have HB58 := Lib.hid (HB57.out.trans (hb58.mono HB57.out.size)); clear hb58
          refine hK.out _ _ HB58.out (fun _ => ?_)
          clear hK K
          unfold vw
          refine wpAnyH_ready (rs := [23]) (by kernel_rfl) (by simp) ?_
          refine AllReadyH.cons (o := ⟨_, _, _, _, _, _⟩) rfl (fun K hK => ?_) AllReadyH.nil
          go_simp
          refine (size_c r s hr64 hs64 _).mono ?_
          rw [K5.out, HC1.out, HC2.out]
          rintro e w59 ⟨rfl, hb59⟩
          have HB59 := Lib.hid (HB58.out.trans (hb59.mono HB58.out.size)); clear hb59
          refine hK.out _ _ HB59.out (fun _ => ?_)
          clear hK K
          refine wpAnyH_ready (rs := [25]) (by kernel_rfl) (by simp) ?_
          refine AllReadyH.cons (o := ⟨_, _, _, _, _, _⟩) rfl (fun K hK => ?_) AllReadyH.nil
          go_simp
          refine (size_c b c hb hc _).mono ?_
          rw [HC1.out]
          rintro e w60 ⟨rfl, hb60⟩
          have HB60 := Lib.hid (HB59.out.trans (hb60.mono HB59.out.size)); clear hb60
          refine hK.out _ _ HB60.out (fun _ => ?_)
          clear hK K
          refine wpAnyH_ready (rs := [27]) (by kernel_rfl) (by simp) ?_
          refine AllReadyH.cons (o := ⟨_, _, _, _, _, _⟩) rfl (fun K hK => ?_) AllReadyH.nil
          go_simp
          refine (size_c m n hm64 hn64 _).mono ?_
          rw [HC2.out]
          rintro e w61 ⟨rfl, hb61⟩
          have HB61 := Lib.hid (HB60.out.trans (hb61.mono HB60.out.size)); clear hb61
          refine hK.out _ _ HB61.out (fun _ => ?_)
          clear hK K
          refine take_in (i := 28) (oi := ⟨_, _, _, _, _, _⟩) (v := ?_) rfl (by kernel_rfl) (by kernel_rfl) (by kernel_rfl) (fun _ _ _ h => h) (by rfl) ?_ HB61.out ?_
          rotate_left
          · intro W hW; have hq := HKB.out W hW; go_simp; with_reducible rfl
          simp only [Act.put, List.setIfInBounds_toArray, List.set_cons_zero, List.set_cons_succ]
          refine take_in (i := 29) (oi := ⟨_, _, _, _, _, _⟩) (v := ?_) rfl (by kernel_rfl) (by kernel_rfl) (by kernel_rfl) (fun _ _ _ h => h) (by rfl) ?_ HB61.out ?_
          rotate_left
          · intro W hW; have hq := HKB.out W hW; go_simp; with_reducible rfl
          simp only [Act.put, List.setIfInBounds_toArray, List.set_cons_zero, List.set_cons_succ]
          refine take_in (i := 30) (oi := ⟨_, _, _, _, _, _⟩) (v := ?_) rfl (by kernel_rfl) (by kernel_rfl) (by kernel_rfl) (fun _ _ _ h => h) (by rfl) ?_ HB61.out ?_
          rotate_left
          · intro W hW; have hq := HKB.out W hW; go_simp; with_reducible rfl
          simp only [Act.put, List.setIfInBounds_toArray, List.set_cons_zero, List.set_cons_succ]
          refine take_in (i := 31) (oi := ⟨_, _, _, _, _, _⟩) (v := ?_) rfl (by kernel_rfl) (by kernel_rfl) (by kernel_rfl) (fun _ _ _ h => h) (by rfl) ?_ HB61.out ?_
          rotate_left
          · intro W hW; have hq := HKB.out W hW; go_simp; with_reducible rfl
          simp only [Act.put, List.setIfInBounds_toArray, List.set_cons_zero, List.set_cons_succ]
          refine wpAnyH_done (by kernel_rfl) ?_ _
          go_wp2
          go_ret
          exact ⟨rfl, HB.out.trans ((HB11.out.trans ((HB41.out.trans (HB61.out.mono HB41.out.size)).mono HB11.out.size)).mono HB.out.size)⟩
      · go_simp
        refine hK.out _ _ (bal HB51.out (Nat.le_refl _) _) (fun _ => ?_)
        clear hK K
        have RF := Lib.hid ((show Rv (w51.alloc (.cells #[.int .i64 (a : Int), .int .i64 (d : Int), .int .i64 (b : Int), .int .i64 (c : Int)] 23)) (w51.heap.size + 1) (some ⟨w51.heap.size, 0, none⟩) [(a, d), (b, c)] from rv_new w51 [(a, d), (b, c)]).more (show w51.heap.size + 1 ≤ (w51.alloc (.cells #[.int .i64 (a : Int), .int .i64 (d : Int), .int .i64 (b : Int), .int .i64 (c : Int)] 23)).heap.size by simp))
        have HB52 := Lib.hid (bal HB51.out (Nat.le_refl _) (.cells #[.int .i64 (a : Int), .int .i64 (d : Int), .int .i64 (b : Int), .int .i64 (c : Int)] 23))
        generalize w51.alloc (.cells #[.int .i64 (a : Int), .int .i64 (d : Int), .int .i64 (b : Int), .int .i64 (c : Int)] 23) = w52 at RF HB52 ⊢
        generalize w51.heap.size = gRF at RF ⊢
        refine wpAnyH_ready (rs := [4]) (by kernel_rfl) (by simp) ?_
        refine AllReadyH.cons (o := ⟨_, _, _, _, _, _⟩) rfl (fun K hK => ?_) AllReadyH.nil
        go_simp
        refine hK.out _ _ (bal HB52.out (Nat.le_refl _) _) (fun _ => ?_)
        clear hK K
        have RF := Lib.hid ((RF.out.below ((Below.refl _ _).alloc (Nat.le_refl _) (.cells #[.int .i64 (m : Int), .int .i64 (n : Int), .int .i64 (b : Int), .int .i64 (c : Int)] 23))).more (show w52.heap.size ≤ (w52.alloc (.cells #[.int .i64 (m : Int), .int .i64 (n : Int), .int .i64 (b : Int), .int .i64 (c : Int)] 23)).heap.size by simp))
        have RE := Lib.hid ((show Rv (w52.alloc (.cells #[.int .i64 (m : Int), .int .i64 (n : Int), .int .i64 (b : Int), .int .i64 (c : Int)] 23)) (w52.heap.size + 1) (some ⟨w52.heap.size, 0, none⟩) [(m, n), (b, c)] from rv_new w52 [(m, n), (b, c)]).more (show w52.heap.size + 1 ≤ (w52.alloc (.cells #[.int .i64 (m : Int), .int .i64 (n : Int), .int .i64 (b : Int), .int .i64 (c : Int)] 23)).heap.size by simp))
        have HB53 := Lib.hid (bal HB52.out (Nat.le_refl _) (.cells #[.int .i64 (m : Int), .int .i64 (n : Int), .int .i64 (b : Int), .int .i64 (c : Int)] 23))
        generalize w52.alloc (.cells #[.int .i64 (m : Int), .int .i64 (n : Int), .int .i64 (b : Int), .int .i64 (c : Int)] 23) = w53 at RF RE HB53 ⊢
        generalize w52.heap.size = gRE at RE ⊢
        refine wpAnyH_ready (rs := [5]) (by kernel_rfl) (by simp) ?_
        refine AllReadyH.cons (o := ⟨_, _, _, _, _, _⟩) rfl (fun K hK => ?_) AllReadyH.nil
        go_simp
        refine (join_c _ 2 2 [(m, n), (b, c)] rfl (by omega) (by simp; omega) w53.heap.size _ RE.out (Nat.le_refl _)).mono ?_
        rw [J6.out]
        rintro e w54 ⟨rfl, hb54⟩
        have RF := Lib.hid ((RF.out.below hb54).more hb54.size)
        have HB54 := Lib.hid (HB53.out.trans (hb54.mono HB53.out.size)); clear hb54
        refine hK.out _ _ HB54.out (fun _ => ?_)
        clear hK K
        unfold vw
        refine wpAnyH_ready (rs := [9]) (by kernel_rfl) (by simp) ?_
        refine AllReadyH.cons (o := ⟨_, _, _, _, _, _⟩) rfl (fun K hK => ?_) AllReadyH.nil
        go_simp
        refine (join_c _ 2 2 [(a, d), (b, c)] rfl (by omega) (by simp; omega) w54.heap.size _ RF.out (Nat.le_refl _)).mono ?_
        rw [J5.out]
        rintro e w55 ⟨rfl, hb55⟩
        have HB55 := Lib.hid (HB54.out.trans (hb55.mono HB54.out.size)); clear hb55
        refine hK.out _ _ HB55.out (fun _ => ?_)
        clear hK K
        unfold vw
        refine take_in (i := 10) (oi := ⟨_, _, _, _, _, _⟩) (v := ?_) rfl (by kernel_rfl) (by kernel_rfl) (by kernel_rfl) (fun _ _ _ h => h) (by rfl) ?_ HB55.out ?_
        rotate_left
        · intro W hW; have hq := HKB.out W hW; go_simp; with_reducible rfl
        simp only [Act.put, List.setIfInBounds_toArray, List.set_cons_zero, List.set_cons_succ]
        refine take_in (i := 11) (oi := ⟨_, _, _, _, _, _⟩) (v := ?_) rfl (by kernel_rfl) (by kernel_rfl) (by kernel_rfl) (fun _ _ _ h => h) (by rfl) ?_ HB55.out ?_
        rotate_left
        · intro W hW; have hq := HKB.out W hW; go_simp; with_reducible rfl
        simp only [Act.put, List.setIfInBounds_toArray, List.set_cons_zero, List.set_cons_succ]
        refine take_in (i := 12) (oi := ⟨_, _, _, _, _, _⟩) (v := ?_) rfl (by kernel_rfl) (by kernel_rfl) (by kernel_rfl) (fun _ _ _ h => h) (by rfl) ?_ HB55.out ?_
        rotate_left
        · intro W hW; have hq := HKB.out W hW; go_simp; with_reducible rfl
        simp only [Act.put, List.setIfInBounds_toArray, List.set_cons_zero, List.set_cons_succ]
        refine take_in (i := 13) (oi := ⟨_, _, _, _, _, _⟩) (v := ?_) rfl (by kernel_rfl) (by kernel_rfl) (by kernel_rfl) (fun _ _ _ h => h) (by rfl) ?_ HB55.out ?_
        rotate_left
        · intro W hW; have hq := HKB.out W hW; go_simp; with_reducible rfl
        simp only [Act.put, List.setIfInBounds_toArray, List.set_cons_zero, List.set_cons_succ]
        refine take_in (i := 15) (oi := ⟨_, _, _, _, _, _⟩) (v := ?_) rfl (by kernel_rfl) (by kernel_rfl) (by kernel_rfl) (fun _ _ _ h => h) (by rfl) ?_ HB55.out ?_
        rotate_left
        · intro W hW; have hq := HKB.out W hW; go_simp; with_reducible rfl
        simp only [Act.put, List.setIfInBounds_toArray, List.set_cons_zero, List.set_cons_succ]
        refine wpAnyH_ready (rs := [14]) (by kernel_rfl) (by simp) ?_
        refine AllReadyH.cons (o := ⟨_, _, _, _, _, _⟩) rfl (fun K hK => ?_) AllReadyH.nil
        go_simp
        refine (minus_c m n hm64 hn64 b c hb hc _).mono ?_
        rw [K4.out.2.2.1, K4.out.2.2.2]
        rintro e w56 ⟨rfl, hb56⟩
        have HB56 := Lib.hid (HB55.out.trans (hb56.mono HB55.out.size)); clear hb56
        refine hK.out _ _ HB56.out (fun _ => ?_)
        clear hK K
        unfold vw
        refine take_in (i := 16) (oi := ⟨_, _, _, _, _, _⟩) (v := ?_) rfl (by kernel_rfl) (by kernel_rfl) (by kernel_rfl) (fun _ _ _ h => h) (by rfl) ?_ HB56.out ?_
        rotate_left
        · intro W hW; have hq := HKB.out W hW; go_simp; with_reducible rfl
        simp only [Act.put, List.setIfInBounds_toArray, List.set_cons_zero, List.set_cons_succ]
        refine take_in (i := 17) (oi := ⟨_, _, _, _, _, _⟩) (v := ?_) rfl (by kernel_rfl) (by kernel_rfl) (by kernel_rfl) (fun _ _ _ h => h) (by rfl) ?_ HB56.out ?_
        rotate_left
        · intro W hW; have hq := HKB.out W hW; go_simp; with_reducible rfl
        simp only [Act.put, List.setIfInBounds_toArray, List.set_cons_zero, List.set_cons_succ]
        refine take_in (i := 18) (oi := ⟨_, _, _, _, _, _⟩) (v := ?_) rfl (by kernel_rfl) (by kernel_rfl) (by kernel_rfl) (fun _ _ _ h => h) (by rfl) ?_ HB56.out ?_
        rotate_left
        · intro W hW; have hq := HKB.out W hW; go_simp; with_reducible rfl
        simp only [Act.put, List.setIfInBounds_toArray, List.set_cons_zero, List.set_cons_succ]
        refine take_in (i := 19) (oi := ⟨_, _, _, _, _, _⟩) (v := ?_) rfl (by kernel_rfl) (by kernel_rfl) (by kernel_rfl) (fun _ _ _ h => h) (by rfl) ?_ HB56.out ?_
        rotate_left
        · intro W hW; have hq := HKB.out W hW; go_simp; with_reducible rfl
        simp only [Act.put, List.setIfInBounds_toArray, List.set_cons_zero, List.set_cons_succ]
        refine take_in (i := 20) (oi := ⟨_, _, _, _, _, _⟩) (v := ?_) rfl (by kernel_rfl) (by kernel_rfl) (by kernel_rfl) (fun _ _ _ h => h) (by rfl) ?_ HB56.out ?_
        rotate_left
        · intro W hW; have hq := HKB.out W hW; go_simp; with_reducible rfl
        simp only [Act.put, List.setIfInBounds_toArray, List.set_cons_zero, List.set_cons_succ]
        refine take_in (i := 24) (oi := ⟨_, _, _, _, _, _⟩) (v := ?_) rfl (by kernel_rfl) (by kernel_rfl) (by kernel_rfl) (fun _ _ _ h => h) (by rfl) ?_ HB56.out ?_
        rotate_left
        · intro W hW; have hq := HKB.out W hW; go_simp; with_reducible rfl
        simp only [Act.put, List.setIfInBounds_toArray, List.set_cons_zero, List.set_cons_succ]
        refine take_in (i := 26) (oi := ⟨_, _, _, _, _, _⟩) (v := ?_) rfl (by kernel_rfl) (by kernel_rfl) (by kernel_rfl) (fun _ _ _ h => h) (by rfl) ?_ HB56.out ?_
        rotate_left
        · intro W hW; have hq := HKB.out W hW; go_simp; with_reducible rfl
        simp only [Act.put, List.setIfInBounds_toArray, List.set_cons_zero, List.set_cons_succ]
        refine wpAnyH_ready (rs := [21]) (by kernel_rfl) (by simp) ?_
        refine AllReadyH.cons (o := ⟨_, _, _, _, _, _⟩) rfl (fun K hK => ?_) AllReadyH.nil
        go_simp
        refine hK.out _ _ (bal HB56.out (Nat.le_refl _) _) (fun _ => ?_)
        clear hK K
        have RG := Lib.hid ((show Rv (w56.alloc (.cells #[.int .i64 (a : Int), .int .i64 (d : Int), .int .i64 (b : Int), .int .i64 (c : Int)] 23)) (w56.heap.size + 1) (some ⟨w56.heap.size, 0, none⟩) [(a, d), (b, c)] from rv_new w56 [(a, d), (b, c)]).more (show w56.heap.size + 1 ≤ (w56.alloc (.cells #[.int .i64 (a : Int), .int .i64 (d : Int), .int .i64 (b : Int), .int .i64 (c : Int)] 23)).heap.size by simp))
        have HB57 := Lib.hid (bal HB56.out (Nat.le_refl _) (.cells #[.int .i64 (a : Int), .int .i64 (d : Int), .int .i64 (b : Int), .int .i64 (c : Int)] 23))
        generalize w56.alloc (.cells #[.int .i64 (a : Int), .int .i64 (d : Int), .int .i64 (b : Int), .int .i64 (c : Int)] 23) = w57 at RG HB57 ⊢
        generalize w56.heap.size = gRG at RG ⊢
        refine wpAnyH_ready (rs := [22]) (by kernel_rfl) (by simp) ?_
        refine AllReadyH.cons (o := ⟨_, _, _, _, _, _⟩) rfl (fun K hK => ?_) AllReadyH.nil
        go_simp
        refine (join_c _ 2 2 [(a, d), (b, c)] rfl (by omega) (by simp; omega) w57.heap.size _ RG.out (Nat.le_refl _)).mono ?_
        rw [J5.out]
        rintro e w58 ⟨rfl, hb58⟩
        have HB58 := Lib.hid (HB57.out.trans (hb58.mono HB57.out.size)); clear hb58
        refine hK.out _ _ HB58.out (fun _ => ?_)
        clear hK K
        unfold vw
        refine wpAnyH_ready (rs := [23]) (by kernel_rfl) (by simp) ?_
        refine AllReadyH.cons (o := ⟨_, _, _, _, _, _⟩) rfl (fun K hK => ?_) AllReadyH.nil
        go_simp
        refine (size_c r s hr64 hs64 _).mono ?_
        rw [K5.out, HC1.out, HC2.out]
        rintro e w59 ⟨rfl, hb59⟩
        have HB59 := Lib.hid (HB58.out.trans (hb59.mono HB58.out.size)); clear hb59
        refine hK.out _ _ HB59.out (fun _ => ?_)
        clear hK K
        refine wpAnyH_ready (rs := [25]) (by kernel_rfl) (by simp) ?_
        refine AllReadyH.cons (o := ⟨_, _, _, _, _, _⟩) rfl (fun K hK => ?_) AllReadyH.nil
        go_simp
        refine (size_c b c hb hc _).mono ?_
        rw [HC1.out]
        rintro e w60 ⟨rfl, hb60⟩
        have HB60 := Lib.hid (HB59.out.trans (hb60.mono HB59.out.size)); clear hb60
        refine hK.out _ _ HB60.out (fun _ => ?_)
        clear hK K
        refine wpAnyH_ready (rs := [27]) (by kernel_rfl) (by simp) ?_
        refine AllReadyH.cons (o := ⟨_, _, _, _, _, _⟩) rfl (fun K hK => ?_) AllReadyH.nil
        go_simp
        refine (size_c m n hm64 hn64 _).mono ?_
        rw [HC2.out]
        rintro e w61 ⟨rfl, hb61⟩
        have HB61 := Lib.hid (HB60.out.trans (hb61.mono HB60.out.size)); clear hb61
        refine hK.out _ _ HB61.out (fun _ => ?_)
        clear hK K
        refine take_in (i := 28) (oi := ⟨_, _, _, _, _, _⟩) (v := ?_) rfl (by kernel_rfl) (by kernel_rfl) (by kernel_rfl) (fun _ _ _ h => h) (by rfl) ?_ HB61.out ?_
        rotate_left
        · intro W hW; have hq := HKB.out W hW; go_simp; with_reducible rfl
        simp only [Act.put, List.setIfInBounds_toArray, List.set_cons_zero, List.set_cons_succ]
        refine take_in (i := 29) (oi := ⟨_, _, _, _, _, _⟩) (v := ?_) rfl (by kernel_rfl) (by kernel_rfl) (by kernel_rfl) (fun _ _ _ h => h) (by rfl) ?_ HB61.out ?_
        rotate_left
        · intro W hW; have hq := HKB.out W hW; go_simp; with_reducible rfl
        simp only [Act.put, List.setIfInBounds_toArray, List.set_cons_zero, List.set_cons_succ]
        refine take_in (i := 30) (oi := ⟨_, _, _, _, _, _⟩) (v := ?_) rfl (by kernel_rfl) (by kernel_rfl) (by kernel_rfl) (fun _ _ _ h => h) (by rfl) ?_ HB61.out ?_
        rotate_left
        · intro W hW; have hq := HKB.out W hW; go_simp; with_reducible rfl
        simp only [Act.put, List.setIfInBounds_toArray, List.set_cons_zero, List.set_cons_succ]
        refine take_in (i := 31) (oi := ⟨_, _, _, _, _, _⟩) (v := ?_) rfl (by kernel_rfl) (by kernel_rfl) (by kernel_rfl) (fun _ _ _ h => h) (by rfl) ?_ HB61.out ?_
        rotate_left
        · intro W hW; have hq := HKB.out W hW; go_simp; with_reducible rfl
        simp only [Act.put, List.setIfInBounds_toArray, List.set_cons_zero, List.set_cons_succ]
        refine wpAnyH_done (by kernel_rfl) ?_ _
        go_wp2
        go_ret
        exact ⟨rfl, HB.out.trans ((HB11.out.trans ((HB41.out.trans (HB61.out.mono HB41.out.size)).mono HB11.out.size)).mono HB.out.size)⟩
    · go_simp
      refine hK.out _ _ (bal HB50.out (Nat.le_refl _) _) (fun _ => ?_)
      clear hK K
      have RF := Lib.hid ((show Rv (w50.alloc (.cells #[.int .i64 (a : Int), .int .i64 (d : Int), .int .i64 (b : Int), .int .i64 (c : Int)] 23)) (w50.heap.size + 1) (some ⟨w50.heap.size, 0, none⟩) [(a, d), (b, c)] from rv_new w50 [(a, d), (b, c)]).more (show w50.heap.size + 1 ≤ (w50.alloc (.cells #[.int .i64 (a : Int), .int .i64 (d : Int), .int .i64 (b : Int), .int .i64 (c : Int)] 23)).heap.size by simp))
      have HB51 := Lib.hid (bal HB50.out (Nat.le_refl _) (.cells #[.int .i64 (a : Int), .int .i64 (d : Int), .int .i64 (b : Int), .int .i64 (c : Int)] 23))
      generalize w50.alloc (.cells #[.int .i64 (a : Int), .int .i64 (d : Int), .int .i64 (b : Int), .int .i64 (c : Int)] 23) = w51 at RF HB51 ⊢
      generalize w50.heap.size = gRF at RF ⊢
      refine wpAnyH_ready (rs := [2]) (by kernel_rfl) (by simp) ?_
      refine AllReadyH.cons (o := ⟨_, _, _, _, _, _⟩) rfl (fun K hK => ?_) AllReadyH.nil
      go_simp
      refine (minus_c a d ha hd b c hb hc _).mono ?_
      rw [K4.out.1, K4.out.2.1]
      rintro e w52 ⟨rfl, hb52⟩
      have RF := Lib.hid ((RF.out.below hb52).more hb52.size)
      have HB52 := Lib.hid (HB51.out.trans (hb52.mono HB51.out.size)); clear hb52
      refine hK.out _ _ HB52.out (fun _ => ?_)
      clear hK K
      unfold vw
      refine wpAnyH_ready (rs := [4]) (by kernel_rfl) (by simp) ?_
      refine AllReadyH.cons (o := ⟨_, _, _, _, _, _⟩) rfl (fun K hK => ?_) AllReadyH.nil
      go_simp
      refine hK.out _ _ (bal HB52.out (Nat.le_refl _) _) (fun _ => ?_)
      clear hK K
      have RF := Lib.hid ((RF.out.below ((Below.refl _ _).alloc (Nat.le_refl _) (.cells #[.int .i64 (m : Int), .int .i64 (n : Int), .int .i64 (b : Int), .int .i64 (c : Int)] 23))).more (show w52.heap.size ≤ (w52.alloc (.cells #[.int .i64 (m : Int), .int .i64 (n : Int), .int .i64 (b : Int), .int .i64 (c : Int)] 23)).heap.size by simp))
      have RE := Lib.hid ((show Rv (w52.alloc (.cells #[.int .i64 (m : Int), .int .i64 (n : Int), .int .i64 (b : Int), .int .i64 (c : Int)] 23)) (w52.heap.size + 1) (some ⟨w52.heap.size, 0, none⟩) [(m, n), (b, c)] from rv_new w52 [(m, n), (b, c)]).more (show w52.heap.size + 1 ≤ (w52.alloc (.cells #[.int .i64 (m : Int), .int .i64 (n : Int), .int .i64 (b : Int), .int .i64 (c : Int)] 23)).heap.size by simp))
      have HB53 := Lib.hid (bal HB52.out (Nat.le_refl _) (.cells #[.int .i64 (m : Int), .int .i64 (n : Int), .int .i64 (b : Int), .int .i64 (c : Int)] 23))
      generalize w52.alloc (.cells #[.int .i64 (m : Int), .int .i64 (n : Int), .int .i64 (b : Int), .int .i64 (c : Int)] 23) = w53 at RF RE HB53 ⊢
      generalize w52.heap.size = gRE at RE ⊢
      refine wpAnyH_ready (rs := [5]) (by kernel_rfl) (by simp) ?_
      refine AllReadyH.cons (o := ⟨_, _, _, _, _, _⟩) rfl (fun K hK => ?_) AllReadyH.nil
      go_simp
      refine (join_c _ 2 2 [(m, n), (b, c)] rfl (by omega) (by simp; omega) w53.heap.size _ RE.out (Nat.le_refl _)).mono ?_
      rw [J6.out]
      rintro e w54 ⟨rfl, hb54⟩
      have RF := Lib.hid ((RF.out.below hb54).more hb54.size)
      have HB54 := Lib.hid (HB53.out.trans (hb54.mono HB53.out.size)); clear hb54
      refine hK.out _ _ HB54.out (fun _ => ?_)
      clear hK K
      unfold vw
      refine wpAnyH_ready (rs := [9]) (by kernel_rfl) (by simp) ?_
      refine AllReadyH.cons (o := ⟨_, _, _, _, _, _⟩) rfl (fun K hK => ?_) AllReadyH.nil
      go_simp
      refine (join_c _ 2 2 [(a, d), (b, c)] rfl (by omega) (by simp; omega) w54.heap.size _ RF.out (Nat.le_refl _)).mono ?_
      rw [J5.out]
      rintro e w55 ⟨rfl, hb55⟩
      have HB55 := Lib.hid (HB54.out.trans (hb55.mono HB54.out.size)); clear hb55
      refine hK.out _ _ HB55.out (fun _ => ?_)
      clear hK K
      unfold vw
      refine take_in (i := 10) (oi := ⟨_, _, _, _, _, _⟩) (v := ?_) rfl (by kernel_rfl) (by kernel_rfl) (by kernel_rfl) (fun _ _ _ h => h) (by rfl) ?_ HB55.out ?_
      rotate_left
      · intro W hW; have hq := HKB.out W hW; go_simp; with_reducible rfl
      simp only [Act.put, List.setIfInBounds_toArray, List.set_cons_zero, List.set_cons_succ]
      refine take_in (i := 11) (oi := ⟨_, _, _, _, _, _⟩) (v := ?_) rfl (by kernel_rfl) (by kernel_rfl) (by kernel_rfl) (fun _ _ _ h => h) (by rfl) ?_ HB55.out ?_
      rotate_left
      · intro W hW; have hq := HKB.out W hW; go_simp; with_reducible rfl
      simp only [Act.put, List.setIfInBounds_toArray, List.set_cons_zero, List.set_cons_succ]
      refine take_in (i := 12) (oi := ⟨_, _, _, _, _, _⟩) (v := ?_) rfl (by kernel_rfl) (by kernel_rfl) (by kernel_rfl) (fun _ _ _ h => h) (by rfl) ?_ HB55.out ?_
      rotate_left
      · intro W hW; have hq := HKB.out W hW; go_simp; with_reducible rfl
      simp only [Act.put, List.setIfInBounds_toArray, List.set_cons_zero, List.set_cons_succ]
      refine take_in (i := 13) (oi := ⟨_, _, _, _, _, _⟩) (v := ?_) rfl (by kernel_rfl) (by kernel_rfl) (by kernel_rfl) (fun _ _ _ h => h) (by rfl) ?_ HB55.out ?_
      rotate_left
      · intro W hW; have hq := HKB.out W hW; go_simp; with_reducible rfl
      simp only [Act.put, List.setIfInBounds_toArray, List.set_cons_zero, List.set_cons_succ]
      refine take_in (i := 15) (oi := ⟨_, _, _, _, _, _⟩) (v := ?_) rfl (by kernel_rfl) (by kernel_rfl) (by kernel_rfl) (fun _ _ _ h => h) (by rfl) ?_ HB55.out ?_
      rotate_left
      · intro W hW; have hq := HKB.out W hW; go_simp; with_reducible rfl
      simp only [Act.put, List.setIfInBounds_toArray, List.set_cons_zero, List.set_cons_succ]
      refine wpAnyH_ready (rs := [14]) (by kernel_rfl) (by simp) ?_
      refine AllReadyH.cons (o := ⟨_, _, _, _, _, _⟩) rfl (fun K hK => ?_) AllReadyH.nil
      go_simp
      refine (minus_c m n hm64 hn64 b c hb hc _).mono ?_
      rw [K4.out.2.2.1, K4.out.2.2.2]
      rintro e w56 ⟨rfl, hb56⟩
      have HB56 := Lib.hid (HB55.out.trans (hb56.mono HB55.out.size)); clear hb56
      refine hK.out _ _ HB56.out (fun _ => ?_)
      clear hK K
      unfold vw
      refine take_in (i := 16) (oi := ⟨_, _, _, _, _, _⟩) (v := ?_) rfl (by kernel_rfl) (by kernel_rfl) (by kernel_rfl) (fun _ _ _ h => h) (by rfl) ?_ HB56.out ?_
      rotate_left
      · intro W hW; have hq := HKB.out W hW; go_simp; with_reducible rfl
      simp only [Act.put, List.setIfInBounds_toArray, List.set_cons_zero, List.set_cons_succ]
      refine take_in (i := 17) (oi := ⟨_, _, _, _, _, _⟩) (v := ?_) rfl (by kernel_rfl) (by kernel_rfl) (by kernel_rfl) (fun _ _ _ h => h) (by rfl) ?_ HB56.out ?_
      rotate_left
      · intro W hW; have hq := HKB.out W hW; go_simp; with_reducible rfl
      simp only [Act.put, List.setIfInBounds_toArray, List.set_cons_zero, List.set_cons_succ]
      refine take_in (i := 18) (oi := ⟨_, _, _, _, _, _⟩) (v := ?_) rfl (by kernel_rfl) (by kernel_rfl) (by kernel_rfl) (fun _ _ _ h => h) (by rfl) ?_ HB56.out ?_
      rotate_left
      · intro W hW; have hq := HKB.out W hW; go_simp; with_reducible rfl
      simp only [Act.put, List.setIfInBounds_toArray, List.set_cons_zero, List.set_cons_succ]
      refine take_in (i := 19) (oi := ⟨_, _, _, _, _, _⟩) (v := ?_) rfl (by kernel_rfl) (by kernel_rfl) (by kernel_rfl) (fun _ _ _ h => h) (by rfl) ?_ HB56.out ?_
      rotate_left
      · intro W hW; have hq := HKB.out W hW; go_simp; with_reducible rfl
      simp only [Act.put, List.setIfInBounds_toArray, List.set_cons_zero, List.set_cons_succ]
      refine take_in (i := 20) (oi := ⟨_, _, _, _, _, _⟩) (v := ?_) rfl (by kernel_rfl) (by kernel_rfl) (by kernel_rfl) (fun _ _ _ h => h) (by rfl) ?_ HB56.out ?_
      rotate_left
      · intro W hW; have hq := HKB.out W hW; go_simp; with_reducible rfl
      simp only [Act.put, List.setIfInBounds_toArray, List.set_cons_zero, List.set_cons_succ]
      refine take_in (i := 24) (oi := ⟨_, _, _, _, _, _⟩) (v := ?_) rfl (by kernel_rfl) (by kernel_rfl) (by kernel_rfl) (fun _ _ _ h => h) (by rfl) ?_ HB56.out ?_
      rotate_left
      · intro W hW; have hq := HKB.out W hW; go_simp; with_reducible rfl
      simp only [Act.put, List.setIfInBounds_toArray, List.set_cons_zero, List.set_cons_succ]
      refine take_in (i := 26) (oi := ⟨_, _, _, _, _, _⟩) (v := ?_) rfl (by kernel_rfl) (by kernel_rfl) (by kernel_rfl) (fun _ _ _ h => h) (by rfl) ?_ HB56.out ?_
      rotate_left
      · intro W hW; have hq := HKB.out W hW; go_simp; with_reducible rfl
      simp only [Act.put, List.setIfInBounds_toArray, List.set_cons_zero, List.set_cons_succ]
      refine wpAnyH_ready (rs := [21]) (by kernel_rfl) (by simp) ?_
      refine AllReadyH.cons (o := ⟨_, _, _, _, _, _⟩) rfl (fun K hK => ?_) AllReadyH.nil
      go_simp
      refine hK.out _ _ (bal HB56.out (Nat.le_refl _) _) (fun _ => ?_)
      clear hK K
      have RG := Lib.hid ((show Rv (w56.alloc (.cells #[.int .i64 (a : Int), .int .i64 (d : Int), .int .i64 (b : Int), .int .i64 (c : Int)] 23)) (w56.heap.size + 1) (some ⟨w56.heap.size, 0, none⟩) [(a, d), (b, c)] from rv_new w56 [(a, d), (b, c)]).more (show w56.heap.size + 1 ≤ (w56.alloc (.cells #[.int .i64 (a : Int), .int .i64 (d : Int), .int .i64 (b : Int), .int .i64 (c : Int)] 23)).heap.size by simp))
      have HB57 := Lib.hid (bal HB56.out (Nat.le_refl _) (.cells #[.int .i64 (a : Int), .int .i64 (d : Int), .int .i64 (b : Int), .int .i64 (c : Int)] 23))
      generalize w56.alloc (.cells #[.int .i64 (a : Int), .int .i64 (d : Int), .int .i64 (b : Int), .int .i64 (c : Int)] 23) = w57 at RG HB57 ⊢
      generalize w56.heap.size = gRG at RG ⊢
      refine wpAnyH_ready (rs := [22]) (by kernel_rfl) (by simp) ?_
      refine AllReadyH.cons (o := ⟨_, _, _, _, _, _⟩) rfl (fun K hK => ?_) AllReadyH.nil
      go_simp
      refine (join_c _ 2 2 [(a, d), (b, c)] rfl (by omega) (by simp; omega) w57.heap.size _ RG.out (Nat.le_refl _)).mono ?_
      rw [J5.out]
      rintro e w58 ⟨rfl, hb58⟩
      have HB58 := Lib.hid (HB57.out.trans (hb58.mono HB57.out.size)); clear hb58
      refine hK.out _ _ HB58.out (fun _ => ?_)
      clear hK K
      unfold vw
      refine wpAnyH_ready (rs := [23]) (by kernel_rfl) (by simp) ?_
      refine AllReadyH.cons (o := ⟨_, _, _, _, _, _⟩) rfl (fun K hK => ?_) AllReadyH.nil
      go_simp
      refine (size_c r s hr64 hs64 _).mono ?_
      rw [K5.out, HC1.out, HC2.out]
      rintro e w59 ⟨rfl, hb59⟩
      have HB59 := Lib.hid (HB58.out.trans (hb59.mono HB58.out.size)); clear hb59
      refine hK.out _ _ HB59.out (fun _ => ?_)
      clear hK K
      refine wpAnyH_ready (rs := [25]) (by kernel_rfl) (by simp) ?_
      refine AllReadyH.cons (o := ⟨_, _, _, _, _, _⟩) rfl (fun K hK => ?_) AllReadyH.nil
      go_simp
      refine (size_c b c hb hc _).mono ?_
      rw [HC1.out]
      rintro e w60 ⟨rfl, hb60⟩
      have HB60 := Lib.hid (HB59.out.trans (hb60.mono HB59.out.size)); clear hb60
      refine hK.out _ _ HB60.out (fun _ => ?_)
      clear hK K
      refine wpAnyH_ready (rs := [27]) (by kernel_rfl) (by simp) ?_
      refine AllReadyH.cons (o := ⟨_, _, _, _, _, _⟩) rfl (fun K hK => ?_) AllReadyH.nil
      go_simp
      refine (size_c m n hm64 hn64 _).mono ?_
      rw [HC2.out]
      rintro e w61 ⟨rfl, hb61⟩
      have HB61 := Lib.hid (HB60.out.trans (hb61.mono HB60.out.size)); clear hb61
      refine hK.out _ _ HB61.out (fun _ => ?_)
      clear hK K
      refine take_in (i := 28) (oi := ⟨_, _, _, _, _, _⟩) (v := ?_) rfl (by kernel_rfl) (by kernel_rfl) (by kernel_rfl) (fun _ _ _ h => h) (by rfl) ?_ HB61.out ?_
      rotate_left
      · intro W hW; have hq := HKB.out W hW; go_simp; with_reducible rfl
      simp only [Act.put, List.setIfInBounds_toArray, List.set_cons_zero, List.set_cons_succ]
      refine take_in (i := 29) (oi := ⟨_, _, _, _, _, _⟩) (v := ?_) rfl (by kernel_rfl) (by kernel_rfl) (by kernel_rfl) (fun _ _ _ h => h) (by rfl) ?_ HB61.out ?_
      rotate_left
      · intro W hW; have hq := HKB.out W hW; go_simp; with_reducible rfl
      simp only [Act.put, List.setIfInBounds_toArray, List.set_cons_zero, List.set_cons_succ]
      refine take_in (i := 30) (oi := ⟨_, _, _, _, _, _⟩) (v := ?_) rfl (by kernel_rfl) (by kernel_rfl) (by kernel_rfl) (fun _ _ _ h => h) (by rfl) ?_ HB61.out ?_
      rotate_left
      · intro W hW; have hq := HKB.out W hW; go_simp; with_reducible rfl
      simp only [Act.put, List.setIfInBounds_toArray, List.set_cons_zero, List.set_cons_succ]
      refine take_in (i := 31) (oi := ⟨_, _, _, _, _, _⟩) (v := ?_) rfl (by kernel_rfl) (by kernel_rfl) (by kernel_rfl) (fun _ _ _ h => h) (by rfl) ?_ HB61.out ?_
      rotate_left
      · intro W hW; have hq := HKB.out W hW; go_simp; with_reducible rfl
      simp only [Act.put, List.setIfInBounds_toArray, List.set_cons_zero, List.set_cons_succ]
      refine wpAnyH_done (by kernel_rfl) ?_ _
      go_wp2
      go_ret
      exact ⟨rfl, HB.out.trans ((HB11.out.trans ((HB41.out.trans (HB61.out.mono HB41.out.size)).mono HB11.out.size)).mono HB.out.size)⟩
end Go.Proofs.Ytjmbgajaflcbaaa.changeTurns
