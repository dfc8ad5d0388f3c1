/- What package book answers, as it landed: contracts by walks. Third part: Merge, News, Within. -/
import Derived.Test.YtjcpdhekilkhgaaBkD
import Derived.Test.YtjcpdhekilkhgaaBkN
namespace Go.Proofs.Ytjcpdhekilkhgaa.Bkw
open Go.RowKit
open Tg Bk
open Tgw (bal hat hbe ret_bool tv)

set_option maxHeartbeats 1000000 in
theorem merge_own (A : Option Addr) (n c : Nat) (es : List E) (hn : n = es.length) (hl : n ≤ 140737488355328) (A2 : Option Addr) (n2 c2 : Nat) (fs : List E) (hn2 : n2 = fs.length) (hl2 : n2 ≤ 140737488355328) (B : Nat) (w : World) (hr : Re w B A es) (hr2 : Re w B A2 fs) (hB : B ≤ w.heap.size) :
    Calls Try.prog 17 #[.slice A n c, .slice A2 n2 c2] w (RetOwnE w w.heap.size (merge es fs)) := by
  have hsf := store_flt
  have heq := eq_tagE
  have HFA : Hid (∀ (key : Int) (W : World), Below w.heap.size w W → Calls Try.prog 26 #[.slice A n c, .int .i64 key] W fun e w' => e = .returned (ev (find es key)) ∧ Below W.heap.size W w') := Lib.hid (fun key W hW => of_c A n c es hn hl key B W (hr.below (hW.mono hB)) (Nat.le_trans hB hW.size))
  have HFB : Hid (∀ (key : Int) (W : World), Below w.heap.size w W → Calls Try.prog 26 #[.slice A2 n2 c2, .int .i64 key] W fun e w' => e = .returned (ev (find fs key)) ∧ Below W.heap.size W w') := Lib.hid (fun key W hW => of_c A2 n2 c2 fs hn2 hl2 key B W (hr2.below (hW.mono hB)) (Nat.le_trans hB hW.size))
  clear hn hr hr2 hn2 hl2 hl
  go_enter Try.func17, Try.ntmps17
  go_wp2
  go_loopw [5, 9] (fun x i wr => ∃ (A3 : Option Addr) (m c3 k : Nat), x = .slice A3 m c3 ∧ i = .int .i64 k ∧ k ≤ 4 ∧ OwnE wr w.heap.size A3 m c3 (mergeK es fs k) ∧ Below w.heap.size w wr) (fun _ i _ => 4 - (intOf i).toNat)
  case atStart => exact ⟨_, 0, 0, 0, rfl, rfl, by omega, ownE_none _ _, Below.refl _ _⟩
  case round =>
    obtain ⟨A3, m, c3, k, rfl, rfl, hk, ho, hb⟩ := hrel
    have HB := Lib.hid hb; have HO := Lib.hid ho
    have hmk : m ≤ k := by rw [ho.1]; exact mergeK_len es fs k
    have hsz := hb.size
    clear hb ho
    by_cases h : k < 4
    · have HMT : Hid (mergeK es fs (k + 1) = mergeK es fs k ++ if (pick es fs k).tag = (0, 0) then [] else [pick es fs k]) := Lib.hid rfl
      have HPK : Hid (pick es fs k = if less (find es k).tag (find fs k).tag then find fs k else find es k) := Lib.hid rfl
      generalize pick es fs k = pk at HMT HPK
      go_wp2_with fail
      refine (HFA.out _ _ HB.out).mono ?_
      rintro e w1 ⟨rfl, hb1⟩
      have HO := Lib.hid (HO.out.below hb1 (Nat.le_refl _))
      have HB := Lib.hid (HB.out.trans (hb1.mono HB.out.size)); clear hb1
      generalize find es (k : Int) = x at HPK ⊢
      have hszg := HB.out.size
      unfold ev
      go_wp2_with fail
      have VX := Lib.hid (show Ex (w1.alloc (.cells #[.int .i64 x.key, .int .i64 x.num, .int .i64 x.node, .float .f64 x.val] 26)) w1.heap.size x from hat _ _ _ rfl)
      have HOO : Hid (∀ W', Below w1.heap.size w1 W' → OwnE W' w.heap.size A3 m c3 (mergeK es fs k)) := Lib.hid (fun W' h => HO.out.below h (Nat.le_refl _))
      have HBG := Lib.hid (bal (Below.refl w1.heap.size w1) (Nat.le_refl _) (.cells #[.int .i64 x.key, .int .i64 x.num, .int .i64 x.node, .float .f64 x.val] 26))
      have HB := Lib.hid (bal HB.out (Nat.le_refl _) (.cells #[.int .i64 x.key, .int .i64 x.num, .int .i64 x.node, .float .f64 x.val] 26))
      clear HO
      generalize w1.alloc (.cells #[.int .i64 x.key, .int .i64 x.num, .int .i64 x.node, .float .f64 x.val] 26) = w2 at VX HB HBG ⊢
      generalize w1.heap.size = gx at VX HOO HBG hszg ⊢
      refine (HFB.out _ _ HB.out).mono ?_
      rintro e w3 ⟨rfl, hb2⟩
      have hgx := VX.out.lt
      have VX := Lib.hid (VX.out.all hb2)
      have HBG := Lib.hid (HBG.out.trans (hb2.mono (Nat.le_of_lt hgx)))
      have HB := Lib.hid (HB.out.trans (hb2.mono HB.out.size)); clear hb2
      generalize find fs (k : Int) = y at HPK ⊢
      unfold ev
      have x0 : (w3.alloc (.cells #[.int .i64 y.key, .int .i64 y.num, .int .i64 y.node, .float .f64 y.val] 26)).cell? ⟨gx, 0, none⟩ = some (.int .i64 x.key) := Ex.c0 (hbe VX.out)
      have x1 : (w3.alloc (.cells #[.int .i64 y.key, .int .i64 y.num, .int .i64 y.node, .float .f64 y.val] 26)).cell? ⟨gx, 1, none⟩ = some (.int .i64 x.num) := Ex.c1 (hbe VX.out)
      have x2 : (w3.alloc (.cells #[.int .i64 y.key, .int .i64 y.num, .int .i64 y.node, .float .f64 y.val] 26)).cell? ⟨gx, 2, none⟩ = some (.int .i64 x.node) := Ex.c2 (hbe VX.out)
      have x3 : (w3.alloc (.cells #[.int .i64 y.key, .int .i64 y.num, .int .i64 y.node, .float .f64 y.val] 26)).cell? ⟨gx, 3, none⟩ = some (.float .f64 x.val) := Ex.c3 (hbe VX.out)
      go_wp2_with fail
      clear x0 x1 x2 x3
      have hgx := VX.out.lt
      have VX := Lib.hid (show Ex (w3.alloc (.cells #[.int .i64 y.key, .int .i64 y.num, .int .i64 y.node, .float .f64 y.val] 26)) gx x from hbe VX.out)
      have VY := Lib.hid (show Ex (w3.alloc (.cells #[.int .i64 y.key, .int .i64 y.num, .int .i64 y.node, .float .f64 y.val] 26)) w3.heap.size y from hat _ _ _ rfl)
      have HBG := Lib.hid (HBG.out.alloc (Nat.le_of_lt hgx) (.cells #[.int .i64 y.key, .int .i64 y.num, .int .i64 y.node, .float .f64 y.val] 26))
      have HB := Lib.hid (bal HB.out (Nat.le_refl _) (.cells #[.int .i64 y.key, .int .i64 y.num, .int .i64 y.node, .float .f64 y.val] 26))
      generalize w3.alloc (.cells #[.int .i64 y.key, .int .i64 y.num, .int .i64 y.node, .float .f64 y.val] 26) = w3' at VX VY HB HBG ⊢
      generalize w3.heap.size = gy at VY hgx ⊢
      refine (Tgw.less_any (x.num, x.node) (y.num, y.node) _).mono ?_
      rintro e w4 ⟨rfl, hb4⟩
      have hgx2 := VX.out.lt
      have VX := Lib.hid (VX.out.all hb4)
      have VY := Lib.hid (VY.out.all hb4)
      have HBG := Lib.hid (HBG.out.trans (hb4.mono (Nat.le_of_lt hgx2)))
      have HBZ := Lib.hid (HB.out.trans (hb4.mono HB.out.size)); clear hb4 HB
      have HPK : Hid (pk = if less (x.num, x.node) (y.num, y.node) then y else x) := HPK
      cases hx : less (x.num, x.node) (y.num, y.node) with
      | false =>
        rw [hx] at HPK
        clear hx
        obtain rfl : pk = x := HPK.out
        have HO := Lib.hid (HOO.out _ HBG.out)
        have x0 := VX.out.c0; have x1 := VX.out.c1; have x2 := VX.out.c2; have x3 := VX.out.c3
        cases hv : (pk.num == 0 && pk.node == 0) with
        | false =>
          have HMT := Lib.hid (HMT.out.trans (by rw [tag_zero _ _ hv]))
          have hv2 : (!(pk.num == 0 && pk.node == 0)) = true := by rw [hv]; rfl
          skip
          go_wp2_with (at_builtin; refine wp_appE rfl (.tmp 28) (.tmp 30) rfl w.heap.size A3 m c3 _ rfl (HO.out.alloc _) w4.heap.size 0 1 1 [pk] rfl rfl (one_cells _ [pk]) (by omega) (Nat.le_trans HBZ.out.size (by simp)) ?_; intro A4 c4 w9 ho4 hb4)
          refine ⟨⟨A4, m + 1, c4, k + 1, rfl, by go_num, by omega, ?_, (bal HBZ.out (Nat.le_refl _) _).trans hb4⟩, by simp [intOf]; omega⟩
          rw [HMT.out]
          exact ho4
        | true =>
          have HMT := Lib.hid (HMT.out.trans (by rw [tag_zero _ _ hv]))
          have hv2 : (!(pk.num == 0 && pk.node == 0)) = false := by rw [hv]; rfl
          go_wp2
          refine ⟨⟨A3, m, c3, k + 1, rfl, by go_num, by omega, ?_, HBZ.out⟩, by simp [intOf]; omega⟩
          rw [HMT.out]
          simpa using HO.out
      | true =>
        rw [hx] at HPK
        clear hx
        obtain rfl : pk = y := HPK.out
        have x0 := VX.out.c0; have x1 := VX.out.c1; have x2 := VX.out.c2; have x3 := VX.out.c3
        have y0 := VY.out.c0; have y1 := VY.out.c1; have y2 := VY.out.c2; have y3 := VY.out.c3
        have z0 := frozen_of_row w4 gx 0 _ _ VX.out
        have z1 := frozen_of_row w4 gx 1 _ _ VX.out
        have z2 := frozen_of_row w4 gx 2 _ _ VX.out
        have z3 := frozen_of_row w4 gx 3 _ _ VX.out
        go_upto_region 9 with (fail)
        have VX := Lib.hid (VX.out.put pk)
        have HBZ := Lib.hid (show Below w.heap.size w ((((w4.setCell ⟨gx, 0, none⟩ (.int .i64 pk.key)).setCell ⟨gx, 1, none⟩ (.int .i64 pk.num)).setCell ⟨gx, 2, none⟩ (.int .i64 pk.node)).setCell ⟨gx, 3, none⟩ (.float .f64 pk.val)) from (((HBZ.out.setCell (by show _ ≤ gx; omega) _).setCell (by show _ ≤ gx; omega) _).setCell (by show _ ≤ gx; omega) _).setCell (by show _ ≤ gx; omega) _)
        have HO := Lib.hid (show OwnE ((((w4.setCell ⟨gx, 0, none⟩ (.int .i64 pk.key)).setCell ⟨gx, 1, none⟩ (.int .i64 pk.num)).setCell ⟨gx, 2, none⟩ (.int .i64 pk.node)).setCell ⟨gx, 3, none⟩ (.float .f64 pk.val)) _ _ _ _ _ from HOO.out _ ((((HBG.out.setCell (Nat.le_refl _) _).setCell (Nat.le_refl _) _).setCell (Nat.le_refl _) _).setCell (Nat.le_refl _) _))
        clear x0 x1 x2 x3 y0 y1 y2 y3 z0 z1 z2 z3 HOO HBG
        generalize ((((w4.setCell ⟨gx, 0, none⟩ (.int .i64 pk.key)).setCell ⟨gx, 1, none⟩ (.int .i64 pk.num)).setCell ⟨gx, 2, none⟩ (.int .i64 pk.node)).setCell ⟨gx, 3, none⟩ (.float .f64 pk.val)) = w8 at VX HBZ HO ⊢
        have x0 := VX.out.c0; have x1 := VX.out.c1; have x2 := VX.out.c2; have x3 := VX.out.c3
        cases hv : (pk.num == 0 && pk.node == 0) with
        | false =>
          have HMT := Lib.hid (HMT.out.trans (by rw [tag_zero _ _ hv]))
          have hv2 : (!(pk.num == 0 && pk.node == 0)) = true := by rw [hv]; rfl
          skip
          go_wp2_with (at_builtin; refine wp_appE rfl (.tmp 28) (.tmp 30) rfl w.heap.size A3 m c3 _ rfl (HO.out.alloc _) w8.heap.size 0 1 1 [pk] rfl rfl (one_cells _ [pk]) (by omega) (Nat.le_trans HBZ.out.size (by simp)) ?_; intro A4 c4 w9 ho4 hb4)
          refine ⟨⟨A4, m + 1, c4, k + 1, rfl, by go_num, by omega, ?_, (bal HBZ.out (Nat.le_refl _) _).trans hb4⟩, by simp [intOf]; omega⟩
          rw [HMT.out]
          exact ho4
        | true =>
          have HMT := Lib.hid (HMT.out.trans (by rw [tag_zero _ _ hv]))
          have hv2 : (!(pk.num == 0 && pk.node == 0)) = false := by rw [hv]; rfl
          go_wp2
          refine ⟨⟨A3, m, c3, k + 1, rfl, by go_num, by omega, ?_, HBZ.out⟩, by simp [intOf]; omega⟩
          rw [HMT.out]
          simpa using HO.out
    · obtain rfl : k = 4 := by omega
      go_wp2
      go_ret
      exact ⟨A3, m, c3, rfl, HO.out, HB.out⟩
theorem merge_c (A : Option Addr) (n c : Nat) (es : List E) (A2 : Option Addr) (n2 c2 : Nat) (fs : List E) (w : World) (h : So w A n c es) (h2 : So w A2 n2 c2 fs) (hb : isBook es = true) (hb2 : isBook fs = true) : Calls Try.prog 17 #[.slice A n c, .slice A2 n2 c2] w (RetSl w (merge es fs)) :=
  (merge_own A n c es h.1 (by have := h.2.2.1; omega) A2 n2 c2 fs h2.1 (by have := h2.2.2.1; omega) _ w h.2.2.2.2 h2.2.2.2.2 (Nat.le_refl _)).mono fun _ _ hr => retSl_own (by have := mergeK_len es fs 4; unfold merge; omega) (wf_merge es fs hb hb2 h.2.2.2.1 h2.2.2.2.1) hr
set_option maxHeartbeats 1000000 in
theorem news_own (A : Option Addr) (n c : Nat) (es : List E) (hn : n = es.length) (hl : n ≤ 140737488355328) (A2 : Option Addr) (n2 c2 : Nat) (fs : List E) (hn2 : n2 = fs.length) (hl2 : n2 ≤ 140737488355328) (B : Nat) (w : World) (hr : Re w B A es) (hr2 : Re w B A2 fs) (hB : B ≤ w.heap.size) :
    Calls Try.prog 18 #[.slice A n c, .slice A2 n2 c2] w (RetOwnE w w.heap.size (newsK es fs 4)) := by
  have hsf := store_flt
  have hft := field_tag
  have HFA : Hid (∀ (key : Int) (W : World), Below w.heap.size w W → Calls Try.prog 26 #[.slice A n c, .int .i64 key] W fun e w' => e = .returned (ev (find es key)) ∧ Below W.heap.size W w') := Lib.hid (fun key W hW => of_c A n c es hn hl key B W (hr.below (hW.mono hB)) (Nat.le_trans hB hW.size))
  have HFB : Hid (∀ (key : Int) (W : World), Below w.heap.size w W → Calls Try.prog 26 #[.slice A2 n2 c2, .int .i64 key] W fun e w' => e = .returned (ev (find fs key)) ∧ Below W.heap.size W w') := Lib.hid (fun key W hW => of_c A2 n2 c2 fs hn2 hl2 key B W (hr2.below (hW.mono hB)) (Nat.le_trans hB hW.size))
  clear hn hr hr2 hn2 hl2 hl
  go_enter Try.func18, Try.ntmps18
  go_wp2
  go_loopw [5, 8] (fun x i wr => ∃ (A3 : Option Addr) (m c3 k : Nat), x = .slice A3 m c3 ∧ i = .int .i64 k ∧ k ≤ 4 ∧ OwnE wr w.heap.size A3 m c3 (newsK es fs k) ∧ Below w.heap.size w wr) (fun _ i _ => 4 - (intOf i).toNat)
  case atStart => exact ⟨_, 0, 0, 0, rfl, rfl, by omega, ownE_none _ _, Below.refl _ _⟩
  case round =>
    obtain ⟨A3, m, c3, k, rfl, rfl, hk, ho, hb⟩ := hrel
    have HB := Lib.hid hb; have HO := Lib.hid ho
    have hmk : m ≤ k := by rw [ho.1]; exact newsK_len es fs k
    have hsz := hb.size
    clear hb ho
    by_cases h : k < 4
    · have HMT : Hid (newsK es fs (k + 1) = newsK es fs k ++ if less ((find es k).num, (find es k).node) ((find fs k).num, (find fs k).node) then [find fs k] else []) := Lib.hid rfl
      go_wp2_with fail
      refine (HFB.out _ _ HB.out).mono ?_
      rintro e w1 ⟨rfl, hb1⟩
      have HO := Lib.hid (HO.out.below hb1 (Nat.le_refl _))
      have HB := Lib.hid (HB.out.trans (hb1.mono HB.out.size)); clear hb1
      generalize find fs (k : Int) = x at HMT ⊢
      unfold ev
      go_wp2_with fail
      have VX := Lib.hid (show Ex (w1.alloc (.cells #[.int .i64 x.key, .int .i64 x.num, .int .i64 x.node, .float .f64 x.val] 26)) w1.heap.size x from hat _ _ _ rfl)
      have HO := Lib.hid (HO.out.alloc (.cells #[.int .i64 x.key, .int .i64 x.num, .int .i64 x.node, .float .f64 x.val] 26))
      have HB := Lib.hid (bal HB.out (Nat.le_refl _) (.cells #[.int .i64 x.key, .int .i64 x.num, .int .i64 x.node, .float .f64 x.val] 26))
      generalize w1.alloc (.cells #[.int .i64 x.key, .int .i64 x.num, .int .i64 x.node, .float .f64 x.val] 26) = w3 at VX HB HO ⊢
      generalize w1.heap.size = gx at VX ⊢
      have HK : Hid (∀ W', Below w3.heap.size w3 W' → W'.cell? ⟨gx, 0, none⟩ = some (.int .i64 x.key) ∧ W'.cell? ⟨gx, 1, none⟩ = some (.int .i64 x.num) ∧ W'.cell? ⟨gx, 2, none⟩ = some (.int .i64 x.node) ∧ W'.cell? ⟨gx, 3, none⟩ = some (.float .f64 x.val)) := Lib.hid (fun W' h => ⟨(VX.out.all h).c0, (VX.out.all h).c1, (VX.out.all h).c2, (VX.out.all h).c3⟩)
      refine wp_region_held_drew (S := fun W' => Below w3.heap.size w3 W') (by kernel_rfl) (Below.refl _ _).drew (fun hHeld => ?_)
      generalize w3.drew = w5 at hHeld ⊢
      have HB5 : Hid (Below w3.heap.size w3 w5) := hHeld
      clear hHeld
      refine take_in (i := 0) (oi := ⟨_, _, _, _, _, _⟩) (v := ?_) rfl (by kernel_rfl) (by kernel_rfl) (by kernel_rfl) (fun _ _ _ h => h) (by rfl) ?_ HB5.out ?_
      rotate_left
      · intro W hW; have hq := HK.out W hW; go_simp; with_reducible rfl
      simp only [Act.put, List.setIfInBounds_toArray, List.set_cons_zero, List.set_cons_succ]
      refine take_in (i := 1) (oi := ⟨_, _, _, _, _, _⟩) (v := ?_) rfl (by kernel_rfl) (by kernel_rfl) (by kernel_rfl) (fun _ _ _ h => h) (by rfl) ?_ HB5.out ?_
      rotate_left
      · intro W hW; have hq := HK.out W hW; go_simp; with_reducible rfl
      simp only [Act.put, List.setIfInBounds_toArray, List.set_cons_zero, List.set_cons_succ]
      refine take_in (i := 4) (oi := ⟨_, _, _, _, _, _⟩) (v := ?_) rfl (by kernel_rfl) (by kernel_rfl) (by kernel_rfl) (fun _ _ _ h => h) (by rfl) ?_ HB5.out ?_
      rotate_left
      · intro W hW; have hq := HK.out W hW; go_simp; with_reducible rfl
      simp only [Act.put, List.setIfInBounds_toArray, List.set_cons_zero, List.set_cons_succ]
      refine take_in (i := 5) (oi := ⟨_, _, _, _, _, _⟩) (v := ?_) rfl (by kernel_rfl) (by kernel_rfl) (by kernel_rfl) (fun _ _ _ h => h) (by rfl) ?_ HB5.out ?_
      rotate_left
      · intro W hW; have hq := HK.out W hW; go_simp; with_reducible rfl
      simp only [Act.put, List.setIfInBounds_toArray, List.set_cons_zero, List.set_cons_succ]
      refine wpAnyH_ready (rs := [2]) (by kernel_rfl) (by simp) ?_
      refine AllReadyH.cons (o := ⟨_, _, _, _, _, _⟩) rfl (fun K hK => ?_) AllReadyH.nil
      go_simp
      refine (HFA.out _ _ (HB.out.trans (HB5.out.mono HB.out.size))).mono ?_
      rintro e w6 ⟨rfl, hb6⟩
      have HB6 := Lib.hid (HB5.out.trans (hb6.mono HB5.out.size)); clear hb6
      refine hK.out _ _ HB6.out (fun _ => ?_)
      clear hK K
      generalize find es (k : Int) = y at HMT ⊢
      unfold ev
      refine take_in (i := 3) (oi := ⟨_, _, _, _, _, _⟩) (v := ?_) rfl (by kernel_rfl) (by kernel_rfl) (by kernel_rfl) (fun _ _ _ h => h) (by rfl) ?_ HB6.out ?_
      rotate_left
      · intro W hW; go_simp; with_reducible rfl
      simp only [Act.put, List.setIfInBounds_toArray, List.set_cons_zero, List.set_cons_succ]
      refine wpAnyH_ready (rs := [6]) (by kernel_rfl) (by simp) ?_
      refine AllReadyH.cons (o := ⟨_, _, _, _, _, _⟩) rfl (fun K hK => ?_) AllReadyH.nil
      go_simp
      refine (Tgw.less_any (y.num, y.node) (x.num, x.node) _).mono ?_
      rintro e w7 ⟨rfl, hb7⟩
      have HB7 := Lib.hid (HB6.out.trans (hb7.mono HB6.out.size)); clear hb7
      refine hK.out _ _ HB7.out (fun _ => ?_)
      clear hK K
      refine wpAnyH_done (by kernel_rfl) ?_ _
      have HO := Lib.hid (HO.out.below HB7.out (Nat.le_refl _))
      have VX := Lib.hid (VX.out.all HB7.out)
      have HBZ := Lib.hid (HB.out.trans (HB7.out.mono HB.out.size))
      clear HK
      cases hx : less (y.num, y.node) (x.num, x.node) with
      | false =>
        rw [hx] at HMT
        clear hx
        go_wp2
        refine ⟨⟨A3, m, c3, k + 1, rfl, by go_num, by omega, ?_, HBZ.out⟩, by simp [intOf]; omega⟩
        rw [HMT.out]
        simpa using HO.out
      | true =>
        rw [hx] at HMT
        clear hx
        have x0 := VX.out.c0; have x1 := VX.out.c1; have x2 := VX.out.c2; have x3 := VX.out.c3
        go_wp2_with (at_builtin; refine wp_appE rfl (.tmp 21) (.tmp 23) rfl w.heap.size A3 m c3 _ rfl (HO.out.alloc _) w7.heap.size 0 1 1 [x] rfl rfl (one_cells _ [x]) (by omega) (Nat.le_trans HBZ.out.size (by simp)) ?_; intro A4 c4 w9 ho4 hb4)
        refine ⟨⟨A4, m + 1, c4, k + 1, rfl, by go_num, by omega, ?_, (bal HBZ.out (Nat.le_refl _) _).trans hb4⟩, by simp [intOf]; omega⟩
        rw [HMT.out]
        exact ho4
    · obtain rfl : k = 4 := by omega
      go_wp2
      go_ret
      exact ⟨A3, m, c3, rfl, HO.out, HB.out⟩
theorem news_c (A : Option Addr) (n c : Nat) (es : List E) (A2 : Option Addr) (n2 c2 : Nat) (fs : List E) (w : World) (h : So w A n c es) (h2 : So w A2 n2 c2 fs) (hb : isBook es = true) (hb2 : isBook fs = true) : Calls Try.prog 18 #[.slice A n c, .slice A2 n2 c2] w (RetSl w (news es fs)) := by
  have e := newsK_eq es fs hb hb2
  refine (news_own A n c es h.1 (by have := h.2.2.1; omega) A2 n2 c2 fs h2.1 (by have := h2.2.2.1; omega) _ w h.2.2.2.2 h2.2.2.2.2 (Nat.le_refl _)).mono fun _ _ hr => retSl_own ?_ (wf_news es fs h2.2.2.2.1) (e ▸ hr)
  have := newsK_len es fs 4
  rw [e] at this
  omega
theorem within_c (A : Option Addr) (n c : Nat) (es : List E) (A2 : Option Addr) (n2 c2 : Nat) (fs : List E) (w : World) (h : So w A n c es) (h2 : So w A2 n2 c2 fs) (hb : isBook es = true) (hb2 : isBook fs = true) : Calls Try.prog 21 #[.slice A n c, .slice A2 n2 c2] w fun e w' => e = .returned (.bool (within es fs)) ∧ Below w.heap.size w w' := by
  have HNC := Lib.hid (news_c A2 n2 c2 fs A n c es w h2 h hb2 hb)
  have HW := Lib.hid (news_zero fs es)
  generalize within es fs = r at HW ⊢
  clear h h2 hb hb2
  go_enter Try.func21, Try.ntmps21
  go_wp2_with fail
  refine HNC.out.mono ?_
  rintro e w2 ⟨A3, m, c3, rfl, hs, hb⟩
  have HB := Lib.hid hb
  have HM : Hid (((m : Int) == 0) = r) := Lib.hid (by
    rw [← HW.out, ← hs.1, Bool.eq_iff_iff, beq_iff_eq, decide_eq_true_iff]
    omega)
  clear hb hs HNC HW
  go_wp2
  go_ret
  exact ⟨ret_bool HM.out, HB.out⟩
end Go.Proofs.Ytjcpdhekilkhgaa.Bkw
