/- The walk of BookKeys. -/
import Derived.Test.YtjcpdhekilkhgaaBkA
import Derived.Test.YtjcpdhekilkhgaaTgC
import Derived.Test.YtjcpdhekilkhgaaWf
namespace Go.Proofs.Ytjcpdhekilkhgaa.bookKeys
open Go.RowKit
open Tg Bk Bkw
open Tgw (bal hat hbe ret_bool tv)

theorem max_pick (es fs : List E) (k : Int) : (pick es fs k).tag = maxT [(find es k).tag, (find fs k).tag] := by
  show _ = if less (find es k).tag (find fs k).tag then (find fs k).tag else (find es k).tag
  unfold pick
  split <;> rfl
/-- what is found of a key in what is merged -/
theorem pick_x (es fs : List E) (k : Int) (h : (pick es fs k).tag = (find es k).tag) : pick es fs k = find es k := by
  unfold pick at h ⊢
  cases hx : less (find es k).tag (find fs k).tag with
  | false => rfl
  | true => rw [hx, if_pos rfl] at h; rw [h, less_self] at hx; cases hx
theorem pick_y (es fs : List E) (k : Int) (h : ¬ (pick es fs k).tag = (find es k).tag) : pick es fs k = find fs k := by
  unfold pick at h ⊢
  cases hx : less (find es k).tag (find fs k).tag with
  | false => rw [hx] at h; exact absurd rfl h
  | true => rfl
set_option maxRecDepth 100000 in
set_option maxHeartbeats 2000000 in
theorem walk (w : World) (A : Option Addr) (n c : Nat) (es : List E) (ha : So w A n c es) (A2 : Option Addr) (n2 c2 : Nat) (fs : List E) (hb : So w A2 n2 c2 fs) (key : Int) (wk : (Lit.int .i64 key).wf = true) :
    Calls Try.prog 8 #[.slice A n c, .slice A2 n2 c2, .int .i64 key] w fun e w' => e = .returned (.bool true) ∧ Below w.heap.size w w' := by
  have hsf := store_flt
  have heq := eq_tagE
  have HK : Hid (I64 key) := Lib.hid (wf_i64 wk)
  have HA := Lib.hid ha; have HF := Lib.hid hb
  clear ha hb wk
  have HB := Lib.hid (Below.refl w.heap.size w)
  go_enter Try.func8, Try.ntmps8
  go_wp2_with fail
  refine (alive_c _).mono ?_
  rintro e w1 ⟨rfl, hb⟩
  have HA := Lib.hid (HA.out.all hb)
  have HF := Lib.hid (HF.out.all hb)
  have HB := Lib.hid (HB.out.trans (hb.mono HB.out.size)); clear hb
  go_wp2_with fail
  refine (check_c A n c es _ HA.out).mono ?_
  rintro e w2 ⟨rfl, hb⟩
  have HA := Lib.hid (HA.out.all hb)
  have HF := Lib.hid (HF.out.all hb)
  have HB := Lib.hid (HB.out.trans (hb.mono HB.out.size)); clear hb
  cases hbk : isBook es with
  | false =>
    rw [show chkN es = 71 from by unfold chkN; rw [hbk]; rfl]
    clear hbk
    go_wp2
    go_ret
    exact ⟨rfl, HB.out⟩
  | true =>
  rw [show chkN es = 0 from by unfold chkN; rw [hbk]; rfl]
  have B1 := Lib.hid hbk; clear hbk
  go_wp2_with fail
  refine (check_c A2 n2 c2 fs _ HF.out).mono ?_
  rintro e w3 ⟨rfl, hb⟩
  have HA := Lib.hid (HA.out.all hb)
  have HF := Lib.hid (HF.out.all hb)
  have HB := Lib.hid (HB.out.trans (hb.mono HB.out.size)); clear hb
  cases hbk : isBook fs with
  | false =>
    rw [show chkN fs = 71 from by unfold chkN; rw [hbk]; rfl]
    clear hbk
    go_wp2
    go_ret
    exact ⟨rfl, HB.out⟩
  | true =>
  rw [show chkN fs = 0 from by unfold chkN; rw [hbk]; rfl]
  have B2 := Lib.hid hbk; clear hbk
  obtain ⟨x, hx⟩ : ∃ x, x = getF es key := ⟨_, rfl⟩
  have HX := Lib.hid hx; clear hx
  obtain ⟨y, hy⟩ : ∃ y, y = getF fs key := ⟨_, rfl⟩
  have HY := Lib.hid hy; clear hy
  obtain ⟨z, hz⟩ : ∃ z, z = getF (merge es fs) key := ⟨_, rfl⟩
  have HZ := Lib.hid hz; clear hz
  obtain ⟨g, hg⟩ : ∃ g, g = getN key := ⟨_, rfl⟩
  have HG := Lib.hid hg; clear hg
  go_wp2_with fail
  refine (get_c A n c es key HK.out _ HA.out B1.out).mono ?_
  rw [← HX.out, ← HG.out]
  rintro e w4 ⟨rfl, hb⟩
  have HA := Lib.hid (HA.out.all hb)
  have HF := Lib.hid (HF.out.all hb)
  have HB := Lib.hid (HB.out.trans (hb.mono HB.out.size)); clear hb
  unfold ev
  go_wp2_with fail
  have VX := Lib.hid (show Ex (w4.alloc (.cells #[.int .i64 x.key, .int .i64 x.num, .int .i64 x.node, .float .f64 x.val] 26)) w4.heap.size x from hat _ _ _ rfl)
  have HA := Lib.hid (HA.out.alloc (.cells #[.int .i64 x.key, .int .i64 x.num, .int .i64 x.node, .float .f64 x.val] 26))
  have HF := Lib.hid (HF.out.alloc (.cells #[.int .i64 x.key, .int .i64 x.num, .int .i64 x.node, .float .f64 x.val] 26))
  have HB := Lib.hid (bal HB.out (Nat.le_refl _) (.cells #[.int .i64 x.key, .int .i64 x.num, .int .i64 x.node, .float .f64 x.val] 26))
  generalize w4.alloc (.cells #[.int .i64 x.key, .int .i64 x.num, .int .i64 x.node, .float .f64 x.val] 26) = w5 at VX HA HF HB ⊢
  generalize w4.heap.size = gx at VX ⊢
  refine (get_c A2 n2 c2 fs key HK.out _ HF.out B2.out).mono ?_
  rw [← HY.out, ← HG.out]
  rintro e w6 ⟨rfl, hb⟩
  have VX := Lib.hid (VX.out.all hb)
  have HA := Lib.hid (HA.out.all hb)
  have HF := Lib.hid (HF.out.all hb)
  have HB := Lib.hid (HB.out.trans (hb.mono HB.out.size)); clear hb
  unfold ev
  go_wp2_with fail
  have VX := Lib.hid (show Ex (w6.alloc (.cells #[.int .i64 y.key, .int .i64 y.num, .int .i64 y.node, .float .f64 y.val] 26)) gx x from hbe VX.out)
  have VY := Lib.hid (show Ex (w6.alloc (.cells #[.int .i64 y.key, .int .i64 y.num, .int .i64 y.node, .float .f64 y.val] 26)) w6.heap.size y from hat _ _ _ rfl)
  have HA := Lib.hid (HA.out.alloc (.cells #[.int .i64 y.key, .int .i64 y.num, .int .i64 y.node, .float .f64 y.val] 26))
  have HF := Lib.hid (HF.out.alloc (.cells #[.int .i64 y.key, .int .i64 y.num, .int .i64 y.node, .float .f64 y.val] 26))
  have HB := Lib.hid (bal HB.out (Nat.le_refl _) (.cells #[.int .i64 y.key, .int .i64 y.num, .int .i64 y.node, .float .f64 y.val] 26))
  generalize w6.alloc (.cells #[.int .i64 y.key, .int .i64 y.num, .int .i64 y.node, .float .f64 y.val] 26) = w7 at VX VY HA HF HB ⊢
  generalize w6.heap.size = gy at VY ⊢
  have HWX := Lib.hid HA.out.2.2.2.1
  have HWY := Lib.hid HF.out.2.2.2.1
  refine (merge_c A n c es A2 n2 c2 fs _ HA.out HF.out B1.out B2.out).mono ?_
  rintro e w8 ⟨A3, n3, c3, rfl, hs, hb⟩
  have VX := Lib.hid (VX.out.all hb)
  have VY := Lib.hid (VY.out.all hb)
  have HM := Lib.hid hs
  have HB := Lib.hid (HB.out.trans (hb.mono HB.out.size)); clear hb hs HA HF
  go_wp2_with fail
  refine (get_c A3 n3 c3 (merge es fs) key HK.out _ HM.out (merge_book es fs B1.out B2.out)).mono ?_
  rw [← HZ.out, ← HG.out]
  rintro e w9 ⟨rfl, hb⟩
  have VX := Lib.hid (VX.out.all hb)
  have VY := Lib.hid (VY.out.all hb)
  have HB := Lib.hid (HB.out.trans (hb.mono HB.out.size)); clear hb HM
  unfold ev
  by_cases hkr : 0 ≤ key ∧ key ≤ 3
  · obtain rfl : g = 0 := by rw [HG.out]; unfold getN; rw [if_pos hkr]
    have EX : Hid (x = find es key) := Lib.hid (by rw [HX.out]; unfold getF; rw [if_pos hkr])
    have EY : Hid (y = find fs key) := Lib.hid (by rw [HY.out]; unfold getF; rw [if_pos hkr])
    have EZ : Hid (z = pick es fs key) := Lib.hid (by rw [HZ.out]; unfold getF; rw [if_pos hkr, find_merge es fs B1.out B2.out])
    clear hkr
    go_wp2_with fail
    have VX := Lib.hid (show Ex (w9.alloc (.cells #[.int .i64 z.key, .int .i64 z.num, .int .i64 z.node, .float .f64 z.val] 26)) gx x from hbe VX.out)
    have VY := Lib.hid (show Ex (w9.alloc (.cells #[.int .i64 z.key, .int .i64 z.num, .int .i64 z.node, .float .f64 z.val] 26)) gy y from hbe VY.out)
    have VZ := Lib.hid (show Ex (w9.alloc (.cells #[.int .i64 z.key, .int .i64 z.num, .int .i64 z.node, .float .f64 z.val] 26)) w9.heap.size z from hat _ _ _ rfl)
    have HB := Lib.hid (bal HB.out (Nat.le_refl _) (.cells #[.int .i64 z.key, .int .i64 z.num, .int .i64 z.node, .float .f64 z.val] 26))
    generalize w9.alloc (.cells #[.int .i64 z.key, .int .i64 z.num, .int .i64 z.node, .float .f64 z.val] 26) = w10 at VX VY VZ HB ⊢
    generalize w9.heap.size = gz at VZ ⊢
    have HKK : Hid (∀ W', Below w10.heap.size w10 W' → (W'.cell? ⟨gx, 1, none⟩ = some (.int .i64 x.num) ∧ W'.cell? ⟨gx, 2, none⟩ = some (.int .i64 x.node)) ∧ (W'.cell? ⟨gy, 1, none⟩ = some (.int .i64 y.num) ∧ W'.cell? ⟨gy, 2, none⟩ = some (.int .i64 y.node)) ∧ W'.cell? ⟨gz, 0, none⟩ = some (.int .i64 z.key) ∧ W'.cell? ⟨gz, 1, none⟩ = some (.int .i64 z.num) ∧ W'.cell? ⟨gz, 2, none⟩ = some (.int .i64 z.node)) := Lib.hid (fun W' h => ⟨⟨(VX.out.all h).c1, (VX.out.all h).c2⟩, ⟨(VY.out.all h).c1, (VY.out.all h).c2⟩, (VZ.out.all h).c0, (VZ.out.all h).c1, (VZ.out.all h).c2⟩)
    have HTG : Hid ((z.num, z.node) = maxT [(x.num, x.node), (y.num, y.node)]) := Lib.hid (by rw [EX.out, EY.out, EZ.out]; exact max_pick es fs key)
    have HI : Hid (∀ t ∈ [(x.num, x.node), (y.num, y.node)], I2 t) := Lib.hid (by
      intro t ht
      simp only [List.mem_cons, List.not_mem_nil, or_false] at ht
      rcases ht with rfl | rfl
      · rw [EX.out]; exact i2_find es key HWX.out
      · rw [EY.out]; exact i2_find fs key HWY.out)
    have HKY : Hid (z.key = key) := Lib.hid (by rw [EZ.out]; exact (pick_tag es fs B1.out B2.out key).1)
    refine wp_region_held_drew (S := fun W' => Below w10.heap.size w10 W') (by kernel_rfl) (Below.refl _ _).drew (fun hHeld => ?_)
    generalize w10.drew = w11 at hHeld ⊢
    have HB5 : Hid (Below w10.heap.size w10 w11) := hHeld
    clear hHeld
    refine take_in (i := 0) (oi := ⟨_, _, _, _, _, _⟩) (v := ?_) rfl (by kernel_rfl) (by kernel_rfl) (by kernel_rfl) (fun _ _ _ h => h) (by rfl) ?_ HB5.out ?_
    rotate_left
    · intro W hW; have hq := HKK.out W hW; go_simp; with_reducible rfl
    simp only [Act.put, List.setIfInBounds_toArray, List.set_cons_zero, List.set_cons_succ]
    refine take_in (i := 1) (oi := ⟨_, _, _, _, _, _⟩) (v := ?_) rfl (by kernel_rfl) (by kernel_rfl) (by kernel_rfl) (fun _ _ _ h => h) (by rfl) ?_ HB5.out ?_
    rotate_left
    · intro W hW; have hq := HKK.out W hW; go_simp; with_reducible rfl
    simp only [Act.put, List.setIfInBounds_toArray, List.set_cons_zero, List.set_cons_succ]
    refine take_in (i := 2) (oi := ⟨_, _, _, _, _, _⟩) (v := ?_) rfl (by kernel_rfl) (by kernel_rfl) (by kernel_rfl) (fun _ _ _ h => h) (by rfl) ?_ HB5.out ?_
    rotate_left
    · intro W hW; have hq := HKK.out W hW; go_simp; with_reducible rfl
    simp only [Act.put, List.setIfInBounds_toArray, List.set_cons_zero, List.set_cons_succ]
    refine take_in (i := 3) (oi := ⟨_, _, _, _, _, _⟩) (v := ?_) rfl (by kernel_rfl) (by kernel_rfl) (by kernel_rfl) (fun _ _ _ h => h) (by rfl) ?_ HB5.out ?_
    rotate_left
    · intro W hW; have hq := HKK.out W hW; go_simp; with_reducible rfl
    simp only [Act.put, List.setIfInBounds_toArray, List.set_cons_zero, List.set_cons_succ]
    refine take_in (i := 4) (oi := ⟨_, _, _, _, _, _⟩) (v := ?_) rfl (by kernel_rfl) (by kernel_rfl) (by kernel_rfl) (fun _ _ _ h => h) (by rfl) ?_ HB5.out ?_
    rotate_left
    · intro W hW; have hq := HKK.out W hW; go_simp; with_reducible rfl
    simp only [Act.put, List.setIfInBounds_toArray, List.set_cons_zero, List.set_cons_succ]
    refine take_in (i := 5) (oi := ⟨_, _, _, _, _, _⟩) (v := ?_) rfl (by kernel_rfl) (by kernel_rfl) (by kernel_rfl) (fun _ _ _ h => h) (by rfl) ?_ HB5.out ?_
    rotate_left
    · intro W hW; have hq := HKK.out W hW; go_simp; with_reducible rfl
    simp only [Act.put, List.setIfInBounds_toArray, List.set_cons_zero, List.set_cons_succ]
    refine wpAnyH_ready (rs := [6]) (by kernel_rfl) (by simp) ?_
    refine AllReadyH.cons (o := ⟨_, _, _, _, _, _⟩) rfl (fun K hK => ?_) AllReadyH.nil
    go_simp
    refine hK.out _ _ (bal HB5.out (Nat.le_refl _) _) (fun _ => ?_)
    clear hK K
    have RX := Lib.hid (show Tgw.Rt (w11.alloc (.cells #[.int .i64 x.num, .int .i64 x.node, .int .i64 y.num, .int .i64 y.node] 23)) (w11.alloc (.cells #[.int .i64 x.num, .int .i64 x.node, .int .i64 y.num, .int .i64 y.node] 23)).heap.size (some ⟨w11.heap.size, 0, none⟩) [(x.num, x.node), (y.num, y.node)] from (Tgw.rt_new w11 [(x.num, x.node), (y.num, y.node)]).more (by simp))
    have HB5 := Lib.hid (bal HB5.out (Nat.le_refl _) (.cells #[.int .i64 x.num, .int .i64 x.node, .int .i64 y.num, .int .i64 y.node] 23))
    generalize w11.alloc (.cells #[.int .i64 x.num, .int .i64 x.node, .int .i64 y.num, .int .i64 y.node] 23) = w12 at RX HB5 ⊢
    generalize w11.heap.size = gt at RX ⊢
    refine wpAnyH_ready (rs := [7]) (by kernel_rfl) (by simp) ?_
    refine AllReadyH.cons (o := ⟨_, _, _, _, _, _⟩) rfl (fun K hK => ?_) AllReadyH.nil
    go_simp
    refine (Tgw.max_c _ 2 2 [(x.num, x.node), (y.num, y.node)] rfl (by omega) (Nat.le_refl _) HI.out _ _ RX.out (Nat.le_refl _)).mono ?_
    rw [← HTG.out]
    rintro e w13 ⟨rfl, hb⟩
    have HB6 := Lib.hid (HB5.out.trans (hb.mono HB5.out.size)); clear hb RX
    refine hK.out _ _ HB6.out (fun _ => ?_)
    clear hK K
    unfold tv
    have hkk := HKY.out
    refine take_in (i := 8) (oi := ⟨_, _, _, _, _, _⟩) (v := ?_) rfl (by kernel_rfl) (by kernel_rfl) (by kernel_rfl) (fun _ _ _ h => h) (by rfl) ?_ HB6.out ?_
    rotate_left
    · intro W hW; have hq := HKK.out W hW; go_simp; with_reducible rfl
    simp only [Act.put, List.setIfInBounds_toArray, List.set_cons_zero, List.set_cons_succ]
    refine take_in (i := 9) (oi := ⟨_, _, _, _, _, _⟩) (v := ?_) rfl (by kernel_rfl) (by kernel_rfl) (by kernel_rfl) (fun _ _ _ h => h) (by rfl) ?_ HB6.out ?_
    rotate_left
    · intro W hW; have hq := HKK.out W hW; go_simp; with_reducible rfl
    simp only [Act.put, List.setIfInBounds_toArray, List.set_cons_zero, List.set_cons_succ]
    refine take_in (i := 10) (oi := ⟨_, _, _, _, _, _⟩) (v := ?_) rfl (by kernel_rfl) (by kernel_rfl) (by kernel_rfl) (fun _ _ _ h => h) (by rfl) ?_ HB6.out ?_
    rotate_left
    · intro W hW; have hq := HKK.out W hW; go_simp; with_reducible rfl
    simp only [Act.put, List.setIfInBounds_toArray, List.set_cons_zero, List.set_cons_succ]
    refine take_in (i := 11) (oi := ⟨_, _, _, _, _, _⟩) (v := ?_) rfl (by kernel_rfl) (by kernel_rfl) (by kernel_rfl) (fun _ _ _ h => h) (by rfl) ?_ HB6.out ?_
    rotate_left
    · intro W hW; have hq := HKK.out W hW; go_simp; with_reducible rfl
    simp only [Act.put, List.setIfInBounds_toArray, List.set_cons_zero, List.set_cons_succ]
    refine take_in (i := 12) (oi := ⟨_, _, _, _, _, _⟩) (v := ?_) rfl (by kernel_rfl) (by kernel_rfl) (by kernel_rfl) (fun _ _ _ h => h) (by rfl) ?_ HB6.out ?_
    rotate_left
    · intro W hW; have hq := HKK.out W hW; go_simp; with_reducible rfl
    simp only [Act.put, List.setIfInBounds_toArray, List.set_cons_zero, List.set_cons_succ]
    refine take_in (i := 13) (oi := ⟨_, _, _, _, _, _⟩) (v := ?_) rfl (by kernel_rfl) (by kernel_rfl) (by kernel_rfl) (fun _ _ _ h => h) (by rfl) ?_ HB6.out ?_
    rotate_left
    · intro W hW; have hq := HKK.out W hW; go_simp; with_reducible rfl
    simp only [Act.put, List.setIfInBounds_toArray, List.set_cons_zero, List.set_cons_succ]
    refine take_in (i := 14) (oi := ⟨_, _, _, _, _, _⟩) (v := ?_) rfl (by kernel_rfl) (by kernel_rfl) (by kernel_rfl) (fun _ _ _ h => h) (by rfl) ?_ HB6.out ?_
    rotate_left
    · intro W hW; have hq := HKK.out W hW; go_simp; with_reducible rfl
    simp only [Act.put, List.setIfInBounds_toArray, List.set_cons_zero, List.set_cons_succ]
    refine wpAnyH_done (by kernel_rfl) ?_ _
    have VX := Lib.hid (VX.out.all HB6.out)
    have VY := Lib.hid (VY.out.all HB6.out)
    have VZ := Lib.hid (VZ.out.all HB6.out)
    have HB := Lib.hid (HB.out.trans (HB6.out.mono HB.out.size))
    have UX : Hid (Flt.U64 x.val) := Lib.hid (by rw [EX.out]; exact u64_find es key (fun e he => (HWX.out e he).2.2.2))
    have UY : Hid (Flt.U64 y.val) := Lib.hid (by rw [EY.out]; exact u64_find fs key (fun e he => (HWY.out e he).2.2.2))
    have HPX : Hid ((z.num == x.num && z.node == x.node) = true → z = x) := Lib.hid (fun h => by
      rw [EX.out, EZ.out] at *
      refine pick_x es fs key ?_
      simp only [Bool.and_eq_true, beq_iff_eq] at h
      unfold E.tag
      rw [h.1, h.2])
    have HPY : Hid ((z.num == x.num && z.node == x.node) = false → z = y) := Lib.hid (fun h => by
      rw [EX.out, EZ.out] at h
      rw [EZ.out, EY.out]
      refine pick_y es fs key (fun ht => ?_)
      have h1 : (pick es fs key).num = (find es key).num := congrArg Prod.fst ht
      have h2 : (pick es fs key).node = (find es key).node := congrArg Prod.snd ht
      rw [h1, h2] at h
      simp at h)
    clear HKK HTG HI HKY hkk EX EY EZ
    have x0 := VX.out.c0; have x1 := VX.out.c1; have x2 := VX.out.c2; have x3 := VX.out.c3
    have y0 := VY.out.c0; have y1 := VY.out.c1; have y2 := VY.out.c2; have y3 := VY.out.c3
    have z0 := VZ.out.c0; have z1 := VZ.out.c1; have z2 := VZ.out.c2; have z3 := VZ.out.c3
    cases hv : (z.num == x.num && z.node == x.node) with
    | true =>
      go_wp2_with fail
      have hzx := HPX.out hv
      refine (alike_r z x (by rw [hzx]; exact UX.out) UX.out _).mono ?_
      rw [hzx, alike_refl]
      rintro e w14 ⟨rfl, hb⟩
      have HB := Lib.hid (HB.out.trans (hb.mono HB.out.size)); clear hb
      go_wp2
      go_ret
      exact ⟨rfl, HB.out⟩
    | false =>
      go_wp2_with fail
      have hzy := HPY.out hv
      refine (alike_r z y (by rw [hzy]; exact UY.out) UY.out _).mono ?_
      rw [hzy, alike_refl]
      rintro e w14 ⟨rfl, hb⟩
      have HB := Lib.hid (HB.out.trans (hb.mono HB.out.size)); clear hb
      go_wp2
      go_ret
      exact ⟨rfl, HB.out⟩
  · obtain rfl : g = 71 := by rw [HG.out]; unfold getN; rw [if_neg hkr]
    clear hkr
    go_wp2
    go_ret
    exact ⟨rfl, bal HB.out (Nat.le_refl _) _⟩
end Go.Proofs.Ytjcpdhekilkhgaa.bookKeys
