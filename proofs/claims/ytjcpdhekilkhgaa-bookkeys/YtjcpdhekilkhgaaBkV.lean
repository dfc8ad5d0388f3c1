/- What the document's Merge of layer 7 answers: a contract by a walk. -/
import Derived.Test.YtjcpdhekilkhgaaBkU
namespace Go.Proofs.Ytjcpdhekilkhgaa.Bkw
open Go.RowKit
open Tg Bk
open Tgw (bal hat hbe ret_bool tv)

theorem eq_tagE (a b c d : Int) (w : World) : (Op.equalIn 10000 23 (.agg #[.int .i64 a, .int .i64 b]) (.agg #[.int .i64 c, .int .i64 d])).run Try.prog w = .ok (a == c && b == d) w := Tgw.eq_tag a b c d w
theorem mergeK_len (a b : List E) : ∀ k, (mergeK a b k).length ≤ k
  | 0 => Nat.le_refl _
  | k + 1 => by
    show (mergeK a b k ++ _).length ≤ _
    rw [List.length_append]
    have := mergeK_len a b k
    split <;> simp <;> omega
/-- the newer of two is not the first just where the first is older -/
theorem max_ne (a b c d : Int) : (!((maxT [(a, b), (c, d)]).1 == a && (maxT [(a, b), (c, d)]).2 == b)) = less (a, b) (c, d) := by
  show (!((if less (a, b) (c, d) then (c, d) else (a, b)).1 == a && (if less (a, b) (c, d) then (c, d) else (a, b)).2 == b)) = less (a, b) (c, d)
  cases h : less (a, b) (c, d) with
  | false => simp
  | true =>
    rw [less_iff] at h
    simp only at h
    simp only [if_true, Bool.not_eq_true', Bool.and_eq_false_iff, beq_eq_false_iff_ne]
    omega
theorem tag_zero (z : E) (v : Bool) (h : (z.num == 0 && z.node == 0) = v) : (if z.tag = (0, 0) then [] else [z]) = if v then [] else [z] := by
  have : (z.tag = (0, 0)) ↔ v = true := by
    subst h
    unfold E.tag
    simp
  by_cases hz : z.tag = (0, 0)
  · rw [if_pos hz, if_pos (this.1 hz)]
  · rw [if_neg hz, if_neg (fun hv => hz (this.2 hv))]
theorem max_two (x y : Int × Int) : maxT [x, y] = if less x y then y else x := rfl
set_option maxHeartbeats 1000000 in
theorem merge_r (A : Option Addr) (n c : Nat) (es : List E) (hn : n = es.length) (hl : n ≤ 140737488355328) (A2 : Option Addr) (n2 c2 : Nat) (fs : List E) (hn2 : n2 = fs.length) (hl2 : n2 ≤ 140737488355328) (B : Nat) (w : World) (hr : Re w B A es) (hr2 : Re w B A2 fs) (hB : B ≤ w.heap.size) :
    Calls Try.prog 19 #[.slice A n c, .slice A2 n2 c2] w (RetOwnE w w.heap.size (merge es fs)) := by
  have hsf := store_flt
  have hft := field_tag
  have heq := eq_tagE
  have HFA : Hid (∀ (key : Int) (W : World), Below w.heap.size w W → Calls Try.prog 33 #[.slice A n c, .int .i64 key] W fun e w' => e = .returned (ev (find es key)) ∧ Below W.heap.size W w') := Lib.hid (fun key W hW => find_r A n c es hn hl key B W (hr.below (hW.mono hB)) (Nat.le_trans hB hW.size))
  have HFB : Hid (∀ (key : Int) (W : World), Below w.heap.size w W → Calls Try.prog 33 #[.slice A2 n2 c2, .int .i64 key] W fun e w' => e = .returned (ev (find fs key)) ∧ Below W.heap.size W w') := Lib.hid (fun key W hW => find_r A2 n2 c2 fs hn2 hl2 key B W (hr2.below (hW.mono hB)) (Nat.le_trans hB hW.size))
  clear hn hr hr2 hn2 hl2 hl
  go_enter Try.func19, Try.ntmps19
  go_wp2
  go_loopw [5, 6] (fun x i wr => ∃ (A3 : Option Addr) (m c3 k : Nat), x = .slice A3 m c3 ∧ i = .int .i64 k ∧ k ≤ 4 ∧ OwnE wr w.heap.size A3 m c3 (mergeK es fs k) ∧ Below w.heap.size w wr) (fun _ i _ => 4 - (intOf i).toNat)
  case atStart => exact ⟨_, 0, 0, 0, rfl, rfl, by omega, ownE_new _ _ _ rfl (Nat.le_refl _), bal (Below.refl _ _) (Nat.le_refl _) _⟩
  case round =>
    obtain ⟨A3, m, c3, k, rfl, rfl, hk, ho, hb⟩ := hrel
    have HB := Lib.hid hb; have HO := Lib.hid ho
    have hmk : m ≤ k := by rw [ho.1]; exact mergeK_len es fs k
    have hsz := hb.size
    clear hb ho
    by_cases h : k < 4
    · have HMT : Hid (mergeK es fs (k + 1) = mergeK es fs k ++ if (pick es fs k).tag = (0, 0) then [] else [pick es fs k]) := Lib.hid rfl
      have HPK : Hid (pick es fs k = if less (find es k).tag (find fs k).tag then find fs k else find es k) := Lib.hid rfl
      generalize pick es fs k = pk at HMT HPK
      go_wp2_with fail
      refine (HFA.out _ _ HB.out).mono ?_
      rintro e w1 ⟨rfl, hb1⟩
      have HO := Lib.hid (HO.out.below hb1 (Nat.le_refl _))
      have HB := Lib.hid (HB.out.trans (hb1.mono HB.out.size)); clear hb1
      generalize find es (k : Int) = x at HPK ⊢
      go_wp2_with fail
      refine (HFB.out _ _ HB.out).mono ?_
      rintro e w2 ⟨rfl, hb2⟩
      have HO := Lib.hid (HO.out.below hb2 (Nat.le_refl _))
      have HB := Lib.hid (HB.out.trans (hb2.mono HB.out.size)); clear hb2
      have hszg := HB.out.size
      generalize find fs (k : Int) = y at HPK ⊢
      unfold ev
      go_wp2_with fail
      have VX := Lib.hid (show Ex ((w2.alloc (.cells #[.int .i64 x.key, .int .i64 x.num, .int .i64 x.node, .float .f64 x.val] 26)).alloc (.cells #[.int .i64 y.key, .int .i64 y.num, .int .i64 y.node, .float .f64 y.val] 26)) w2.heap.size x from hbe (hat _ _ _ rfl))
      have VY := Lib.hid (show Ex ((w2.alloc (.cells #[.int .i64 x.key, .int .i64 x.num, .int .i64 x.node, .float .f64 x.val] 26)).alloc (.cells #[.int .i64 y.key, .int .i64 y.num, .int .i64 y.node, .float .f64 y.val] 26)) (w2.heap.size + 1) y from hat _ _ _ (by simp))
      have HOO : Hid (∀ W', Below w2.heap.size w2 W' → OwnE W' w.heap.size A3 m c3 (mergeK es fs k)) := Lib.hid (fun W' h => HO.out.below h (Nat.le_refl _))
      have HBG := Lib.hid (bal (bal (Below.refl w2.heap.size w2) (Nat.le_refl _) (.cells #[.int .i64 x.key, .int .i64 x.num, .int .i64 x.node, .float .f64 x.val] 26)) (Nat.le_refl _) (.cells #[.int .i64 y.key, .int .i64 y.num, .int .i64 y.node, .float .f64 y.val] 26))
      have HO := Lib.hid ((HO.out.alloc (.cells #[.int .i64 x.key, .int .i64 x.num, .int .i64 x.node, .float .f64 x.val] 26)).alloc (.cells #[.int .i64 y.key, .int .i64 y.num, .int .i64 y.node, .float .f64 y.val] 26))
      have HB := Lib.hid (bal (bal HB.out (Nat.le_refl _) (.cells #[.int .i64 x.key, .int .i64 x.num, .int .i64 x.node, .float .f64 x.val] 26)) (Nat.le_refl _) (.cells #[.int .i64 y.key, .int .i64 y.num, .int .i64 y.node, .float .f64 y.val] 26))
      generalize ((w2.alloc (.cells #[.int .i64 x.key, .int .i64 x.num, .int .i64 x.node, .float .f64 x.val] 26)).alloc (.cells #[.int .i64 y.key, .int .i64 y.num, .int .i64 y.node, .float .f64 y.val] 26)) = w3 at VX VY HO HB HBG ⊢
      generalize w2.heap.size = gx at VX VY hszg HOO HBG ⊢
      have HK : Hid (∀ W', Below w3.heap.size w3 W' → (W'.cell? ⟨gx, 0, none⟩ = some (.int .i64 x.key) ∧ W'.cell? ⟨gx, 1, none⟩ = some (.int .i64 x.num) ∧ W'.cell? ⟨gx, 2, none⟩ = some (.int .i64 x.node) ∧ W'.cell? ⟨gx, 3, none⟩ = some (.float .f64 x.val)) ∧ (W'.cell? ⟨gx + 1, 0, none⟩ = some (.int .i64 y.key) ∧ W'.cell? ⟨gx + 1, 1, none⟩ = some (.int .i64 y.num) ∧ W'.cell? ⟨gx + 1, 2, none⟩ = some (.int .i64 y.node) ∧ W'.cell? ⟨gx + 1, 3, none⟩ = some (.float .f64 y.val))) := Lib.hid (fun W' h => ⟨⟨(VX.out.all h).c0, (VX.out.all h).c1, (VX.out.all h).c2, (VX.out.all h).c3⟩, (VY.out.all h).c0, (VY.out.all h).c1, (VY.out.all h).c2, (VY.out.all h).c3⟩)
      refine wp_region_held_drew (S := fun W' => Below w3.heap.size w3 W') (by kernel_rfl) (Below.refl _ _).drew (fun hHeld => ?_)
      generalize w3.drew = w5 at hHeld ⊢
      have HB5 : Hid (Below w3.heap.size w3 w5) := hHeld
      clear hHeld
      refine take_in (i := 0) (oi := ⟨_, _, _, _, _, _⟩) (v := ?_) rfl (by kernel_rfl) (by kernel_rfl) (by kernel_rfl) (fun _ _ _ h => h) (by rfl) ?_ HB5.out ?_
      rotate_left
      · intro W hW; have hq := HK.out W hW; go_simp; with_reducible rfl
      simp only [Act.put, List.setIfInBounds_toArray, List.set_cons_zero, List.set_cons_succ]
      refine take_in (i := 1) (oi := ⟨_, _, _, _, _, _⟩) (v := ?_) rfl (by kernel_rfl) (by kernel_rfl) (by kernel_rfl) (fun _ _ _ h => h) (by rfl) ?_ HB5.out ?_
      rotate_left
      · intro W hW; have hq := HK.out W hW; go_simp; with_reducible rfl
      simp only [Act.put, List.setIfInBounds_toArray, List.set_cons_zero, List.set_cons_succ]
      refine take_in (i := 2) (oi := ⟨_, _, _, _, _, _⟩) (v := ?_) rfl (by kernel_rfl) (by kernel_rfl) (by kernel_rfl) (fun _ _ _ h => h) (by rfl) ?_ HB5.out ?_
      rotate_left
      · intro W hW; have hq := HK.out W hW; go_simp; with_reducible rfl
      simp only [Act.put, List.setIfInBounds_toArray, List.set_cons_zero, List.set_cons_succ]
      refine take_in (i := 3) (oi := ⟨_, _, _, _, _, _⟩) (v := ?_) rfl (by kernel_rfl) (by kernel_rfl) (by kernel_rfl) (fun _ _ _ h => h) (by rfl) ?_ HB5.out ?_
      rotate_left
      · intro W hW; have hq := HK.out W hW; go_simp; with_reducible rfl
      simp only [Act.put, List.setIfInBounds_toArray, List.set_cons_zero, List.set_cons_succ]
      refine take_in (i := 6) (oi := ⟨_, _, _, _, _, _⟩) (v := ?_) rfl (by kernel_rfl) (by kernel_rfl) (by kernel_rfl) (fun _ _ _ h => h) (by rfl) ?_ HB5.out ?_
      rotate_left
      · intro W hW; have hq := HK.out W hW; go_simp; with_reducible rfl
      simp only [Act.put, List.setIfInBounds_toArray, List.set_cons_zero, List.set_cons_succ]
      refine take_in (i := 7) (oi := ⟨_, _, _, _, _, _⟩) (v := ?_) rfl (by kernel_rfl) (by kernel_rfl) (by kernel_rfl) (fun _ _ _ h => h) (by rfl) ?_ HB5.out ?_
      rotate_left
      · intro W hW; have hq := HK.out W hW; go_simp; with_reducible rfl
      simp only [Act.put, List.setIfInBounds_toArray, List.set_cons_zero, List.set_cons_succ]
      refine wpAnyH_ready (rs := [4]) (by kernel_rfl) (by simp) ?_
      refine AllReadyH.cons (o := ⟨_, _, _, _, _, _⟩) rfl (fun K hK => ?_) AllReadyH.nil
      go_simp
      refine hK.out _ _ (bal HB5.out (Nat.le_refl _) _) (fun _ => ?_)
      clear hK K
      have RX := Lib.hid (show Tgw.Rt (w5.alloc (.cells #[.int .i64 x.num, .int .i64 x.node, .int .i64 y.num, .int .i64 y.node] 23)) (w5.alloc (.cells #[.int .i64 x.num, .int .i64 x.node, .int .i64 y.num, .int .i64 y.node] 23)).heap.size (some ⟨w5.heap.size, 0, none⟩) [(x.num, x.node), (y.num, y.node)] from (Tgw.rt_new w5 [(x.num, x.node), (y.num, y.node)]).more (by simp))
      have HB5 := Lib.hid (bal HB5.out (Nat.le_refl _) (.cells #[.int .i64 x.num, .int .i64 x.node, .int .i64 y.num, .int .i64 y.node] 23))
      generalize w5.alloc (.cells #[.int .i64 x.num, .int .i64 x.node, .int .i64 y.num, .int .i64 y.node] 23) = w6 at RX HB5 ⊢
      generalize w5.heap.size = gt at RX ⊢
      refine wpAnyH_ready (rs := [5]) (by kernel_rfl) (by simp) ?_
      refine AllReadyH.cons (o := ⟨_, _, _, _, _, _⟩) rfl (fun K hK => ?_) AllReadyH.nil
      go_simp
      refine (Tgw.max_r _ 2 2 [(x.num, x.node), (y.num, y.node)] rfl (by omega) _ _ RX.out (Nat.le_refl _)).mono ?_
      rintro e w7 ⟨rfl, hb7⟩
      have HB7 := Lib.hid (HB5.out.trans (hb7.mono HB5.out.size)); clear hb7 RX
      refine hK.out _ _ HB7.out (fun _ => ?_)
      clear hK K
      have HL := Lib.hid (max_ne x.num x.node y.num y.node)
      have HPK : Hid (pk = if less (x.num, x.node) (y.num, y.node) then y else x) := HPK
      generalize (maxT [(x.num, x.node), (y.num, y.node)]).1 = mx at HL ⊢
      generalize (maxT [(x.num, x.node), (y.num, y.node)]).2 = my at HL ⊢
      unfold tv
      have hl2 := HL.out
      refine take_in (i := 8) (oi := ⟨_, _, _, _, _, _⟩) (v := ?_) rfl (by kernel_rfl) (by kernel_rfl) (by kernel_rfl) (fun _ _ _ h => h) (by rfl) ?_ HB7.out ?_
      rotate_left
      · intro W hW; go_simp; with_reducible rfl
      simp only [Act.put, List.setIfInBounds_toArray, List.set_cons_zero, List.set_cons_succ]
      refine wpAnyH_done (by kernel_rfl) ?_ _
      have HO := Lib.hid (HO.out.below HB7.out (Nat.le_refl _))
      have hgx := VX.out.lt
      have VX := Lib.hid (VX.out.all HB7.out)
      have VY := Lib.hid (VY.out.all HB7.out)
      have HBZ := Lib.hid (HB.out.trans (HB7.out.mono HB.out.size))
      have HBG := Lib.hid (HBG.out.trans (HB7.out.mono (Nat.le_of_lt hgx)))
      clear hl2 HL HK
      cases hx : less (x.num, x.node) (y.num, y.node) with
      | false =>
        rw [hx] at HPK
        clear hx
        obtain rfl : pk = x := HPK.out
        have x0 := VX.out.c0; have x1 := VX.out.c1; have x2 := VX.out.c2; have x3 := VX.out.c3
        cases hv : (pk.num == 0 && pk.node == 0) with
        | false =>
          have HMT := Lib.hid (HMT.out.trans (by rw [tag_zero _ _ hv]))
          have hv2 : (!(pk.num == 0 && pk.node == 0)) = true := by rw [hv]; rfl
          skip
          go_wp2_with (at_builtin; refine wp_appE rfl (.tmp 34) (.tmp 36) rfl w.heap.size A3 m c3 _ rfl (HO.out.alloc _) w7.heap.size 0 1 1 [pk] rfl rfl (one_cells _ [pk]) (by omega) (Nat.le_trans HBZ.out.size (by simp)) ?_; intro A4 c4 w9 ho4 hb4)
          refine ⟨⟨A4, m + 1, c4, k + 1, rfl, by go_num, by omega, ?_, (bal HBZ.out (Nat.le_refl _) _).trans hb4⟩, by simp [intOf]; omega⟩
          rw [HMT.out]
          exact ho4
        | true =>
          have HMT := Lib.hid (HMT.out.trans (by rw [tag_zero _ _ hv]))
          have hv2 : (!(pk.num == 0 && pk.node == 0)) = false := by rw [hv]; rfl
          go_wp2
          refine ⟨⟨A3, m, c3, k + 1, rfl, by go_num, by omega, ?_, HBZ.out⟩, by simp [intOf]; omega⟩
          rw [HMT.out]
          simpa using HO.out
      | true =>
        rw [hx] at HPK
        clear hx
        obtain rfl : pk = y := HPK.out
        have x0 := VX.out.c0; have x1 := VX.out.c1; have x2 := VX.out.c2; have x3 := VX.out.c3
        have y0 := VY.out.c0; have y1 := VY.out.c1; have y2 := VY.out.c2; have y3 := VY.out.c3
        have z0 := frozen_of_row w7 gx 0 _ _ VX.out
        have z1 := frozen_of_row w7 gx 1 _ _ VX.out
        have z2 := frozen_of_row w7 gx 2 _ _ VX.out
        have z3 := frozen_of_row w7 gx 3 _ _ VX.out
        go_upto_region 8 with (fail)
        have VX := Lib.hid (VX.out.put pk)
        have HBZ := Lib.hid (show Below w.heap.size w ((((w7.setCell ⟨gx, 0, none⟩ (.int .i64 pk.key)).setCell ⟨gx, 1, none⟩ (.int .i64 pk.num)).setCell ⟨gx, 2, none⟩ (.int .i64 pk.node)).setCell ⟨gx, 3, none⟩ (.float .f64 pk.val)) from (((HBZ.out.setCell (by show _ ≤ gx; omega) _).setCell (by show _ ≤ gx; omega) _).setCell (by show _ ≤ gx; omega) _).setCell (by show _ ≤ gx; omega) _)
        have HO := Lib.hid (show OwnE ((((w7.setCell ⟨gx, 0, none⟩ (.int .i64 pk.key)).setCell ⟨gx, 1, none⟩ (.int .i64 pk.num)).setCell ⟨gx, 2, none⟩ (.int .i64 pk.node)).setCell ⟨gx, 3, none⟩ (.float .f64 pk.val)) _ _ _ _ _ from HOO.out _ ((((HBG.out.setCell (Nat.le_refl _) _).setCell (Nat.le_refl _) _).setCell (Nat.le_refl _) _).setCell (Nat.le_refl _) _))
        clear x0 x1 x2 x3 y0 y1 y2 y3 z0 z1 z2 z3 HOO HBG
        generalize (((w7.setCell ⟨gx, 0, none⟩ (.int .i64 pk.key)).setCell ⟨gx, 1, none⟩ (.int .i64 pk.num)).setCell ⟨gx, 2, none⟩ (.int .i64 pk.node)).setCell ⟨gx, 3, none⟩ (.float .f64 pk.val) = w8 at VX HBZ HO ⊢
        have x0 := VX.out.c0; have x1 := VX.out.c1; have x2 := VX.out.c2; have x3 := VX.out.c3
        cases hv : (pk.num == 0 && pk.node == 0) with
        | false =>
          have HMT := Lib.hid (HMT.out.trans (by rw [tag_zero _ _ hv]))
          have hv2 : (!(pk.num == 0 && pk.node == 0)) = true := by rw [hv]; rfl
          skip
          go_wp2_with (at_builtin; refine wp_appE rfl (.tmp 34) (.tmp 36) rfl w.heap.size A3 m c3 _ rfl (HO.out.alloc _) w8.heap.size 0 1 1 [pk] rfl rfl (one_cells _ [pk]) (by omega) (Nat.le_trans HBZ.out.size (by simp)) ?_; intro A4 c4 w9 ho4 hb4)
          refine ⟨⟨A4, m + 1, c4, k + 1, rfl, by go_num, by omega, ?_, (bal HBZ.out (Nat.le_refl _) _).trans hb4⟩, by simp [intOf]; omega⟩
          rw [HMT.out]
          exact ho4
        | true =>
          have HMT := Lib.hid (HMT.out.trans (by rw [tag_zero _ _ hv]))
          have hv2 : (!(pk.num == 0 && pk.node == 0)) = false := by rw [hv]; rfl
          go_wp2
          refine ⟨⟨A3, m, c3, k + 1, rfl, by go_num, by omega, ?_, HBZ.out⟩, by simp [intOf]; omega⟩
          rw [HMT.out]
          simpa using HO.out
    · obtain rfl : k = 4 := by omega
      go_wp2
      go_ret
      exact ⟨A3, m, c3, rfl, HO.out, HB.out⟩
end Go.Proofs.Ytjcpdhekilkhgaa.Bkw
