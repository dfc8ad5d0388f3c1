/- What the document's Within, News, Check and Merge of layer 7 answer: contracts by walks. -/
import Derived.Test.YtjcpdhekilkhgaaBkS
namespace Go.Proofs.Ytjcpdhekilkhgaa.Bkw
open Go.RowKit
open Tg Bk
open Tgw (bal hat hbe ret_bool tv)

theorem all_more (l : List E) (p : E → Bool) (k : Nat) (x : E) (h : l[k]? = some x) (hx : p x = true) (ha : (l.take k).all p = true) : (l.take (k + 1)).all p = true := by
  rw [List.take_add_one, h, List.all_append, ha]
  simp [hx]
theorem within_false (a b : List E) (k : Nat) (x : E) (h : a[k]? = some x) (hx : isNew b x = true) : within a b = false := by
  unfold within
  rw [List.all_eq_false]
  exact ⟨x, List.mem_of_getElem? h, by rw [hx]; simp⟩
set_option maxHeartbeats 1000000 in
theorem within_r (A : Option Addr) (n c : Nat) (es : List E) (hn : n = es.length) (hl : n ≤ 140737488355328) (A2 : Option Addr) (n2 c2 : Nat) (fs : List E) (hn2 : n2 = fs.length) (hl2 : n2 ≤ 140737488355328) (B : Nat) (w : World) (hr : Re w B A es) (hr2 : Re w B A2 fs) (hB : B ≤ w.heap.size) :
    Calls Try.prog 22 #[.slice A n c, .slice A2 n2 c2] w fun e w' => e = .returned (.bool (within es fs)) ∧ Below w.heap.size w w' := by
  have hsf := store_flt
  have hft := field_tag
  have HN := Lib.hid hn; have HR := Lib.hid hr
  have HFD : Hid (∀ (key : Int) (W : World), Below w.heap.size w W → Calls Try.prog 33 #[.slice A2 n2 c2, .int .i64 key] W fun e w' => e = .returned (ev (find fs key)) ∧ Below W.heap.size W w') := Lib.hid (fun key W hW => find_r A2 n2 c2 fs hn2 hl2 key B W (hr2.below (hW.mono hB)) (Nat.le_trans hB hW.size))
  have HF : Hid (∀ (k : Nat) x, es[k]? = some x → isNew fs x = true → within es fs = false) := Lib.hid (within_false es fs)
  have HT : Hid ((es.take n).all (fun x => !isNew fs x) = true → within es fs = true) := Lib.hid (fun h => by rwa [List.take_of_length_le (by rw [← hn]; omega)] at h)
  generalize within es fs = r at HF HT ⊢
  clear hn hr hr2 hn2 hl2
  go_enter Try.func22, Try.ntmps22
  go_wp2
  go_loopw [9] (fun i wr => ∃ k : Nat, i = .int .i64 k ∧ k ≤ n ∧ (es.take k).all (fun x => !isNew fs x) = true ∧ Below w.heap.size w wr) (fun i _ => n - (intOf i).toNat)
  case atStart => exact ⟨0, rfl, by omega, rfl, Below.refl _ _⟩
  case round =>
    obtain ⟨k, rfl, hk, hall, hb⟩ := hrel
    have HB := Lib.hid hb; have HA := Lib.hid hall
    have hsz := hb.size
    clear hb hall
    by_cases h : k < n
    · obtain ⟨b, o, rfl, hbB, hcell⟩ := HR.out (by rw [← HN.out]; omega)
      have hkl : k < es.length := by rw [← HN.out]; exact h
      have hz : es[k]? = some es[k] := List.getElem?_eq_getElem hkl
      have hc0 := (hcell k es[k] hz).below (HB.out.mono hB) hbB
      generalize es[k] = x at hz hc0
      obtain ⟨x0, x1, x2, x3⟩ := hc0
      have HX := Lib.hid hz
      clear hz hcell hkl
      go_wp2_with fail
      have VX := Lib.hid (show Ex (wr.alloc (.cells #[.int .i64 x.key, .int .i64 x.num, .int .i64 x.node, .float .f64 x.val] 26)) wr.heap.size x from hat _ _ _ rfl)
      have HB := Lib.hid (bal HB.out (Nat.le_refl _) (.cells #[.int .i64 x.key, .int .i64 x.num, .int .i64 x.node, .float .f64 x.val] 26))
      generalize wr.alloc (.cells #[.int .i64 x.key, .int .i64 x.num, .int .i64 x.node, .float .f64 x.val] 26) = w1 at VX HB ⊢
      generalize wr.heap.size = gx at VX ⊢
      have HK : Hid (∀ W', Below w1.heap.size w1 W' → W'.cell? ⟨gx, 0, none⟩ = some (.int .i64 x.key) ∧ W'.cell? ⟨gx, 1, none⟩ = some (.int .i64 x.num) ∧ W'.cell? ⟨gx, 2, none⟩ = some (.int .i64 x.node) ∧ W'.cell? ⟨gx, 3, none⟩ = some (.float .f64 x.val)) := Lib.hid (fun W' h => ⟨(VX.out.all h).c0, (VX.out.all h).c1, (VX.out.all h).c2, (VX.out.all h).c3⟩)
      clear x0 x1 x2 x3
      refine wp_region_held_drew (S := fun W' => Below w1.heap.size w1 W') (by kernel_rfl) (Below.refl _ _).drew (fun hHeld => ?_)
      generalize w1.drew = w5 at hHeld ⊢
      have HB5 : Hid (Below w1.heap.size w1 w5) := hHeld
      clear hHeld
      refine take_in (i := 0) (oi := ⟨_, _, _, _, _, _⟩) (v := ?_) rfl (by kernel_rfl) (by kernel_rfl) (by kernel_rfl) (fun _ _ _ h => h) (by rfl) ?_ HB5.out ?_
      rotate_left
      · intro W hW; have hq := HK.out W hW; go_simp; with_reducible rfl
      simp only [Act.put, List.setIfInBounds_toArray, List.set_cons_zero, List.set_cons_succ]
      refine take_in (i := 1) (oi := ⟨_, _, _, _, _, _⟩) (v := ?_) rfl (by kernel_rfl) (by kernel_rfl) (by kernel_rfl) (fun _ _ _ h => h) (by rfl) ?_ HB5.out ?_
      rotate_left
      · intro W hW; have hq := HK.out W hW; go_simp; with_reducible rfl
      simp only [Act.put, List.setIfInBounds_toArray, List.set_cons_zero, List.set_cons_succ]
      refine take_in (i := 2) (oi := ⟨_, _, _, _, _, _⟩) (v := ?_) rfl (by kernel_rfl) (by kernel_rfl) (by kernel_rfl) (fun _ _ _ h => h) (by rfl) ?_ HB5.out ?_
      rotate_left
      · intro W hW; have hq := HK.out W hW; go_simp; with_reducible rfl
      simp only [Act.put, List.setIfInBounds_toArray, List.set_cons_zero, List.set_cons_succ]
      refine take_in (i := 5) (oi := ⟨_, _, _, _, _, _⟩) (v := ?_) rfl (by kernel_rfl) (by kernel_rfl) (by kernel_rfl) (fun _ _ _ h => h) (by rfl) ?_ HB5.out ?_
      rotate_left
      · intro W hW; have hq := HK.out W hW; go_simp; with_reducible rfl
      simp only [Act.put, List.setIfInBounds_toArray, List.set_cons_zero, List.set_cons_succ]
      refine take_in (i := 6) (oi := ⟨_, _, _, _, _, _⟩) (v := ?_) rfl (by kernel_rfl) (by kernel_rfl) (by kernel_rfl) (fun _ _ _ h => h) (by rfl) ?_ HB5.out ?_
      rotate_left
      · intro W hW; have hq := HK.out W hW; go_simp; with_reducible rfl
      simp only [Act.put, List.setIfInBounds_toArray, List.set_cons_zero, List.set_cons_succ]
      refine wpAnyH_ready (rs := [3]) (by kernel_rfl) (by simp) ?_
      refine AllReadyH.cons (o := ⟨_, _, _, _, _, _⟩) rfl (fun K hK => ?_) AllReadyH.nil
      go_simp
      refine (HFD.out x.key _ (HB.out.trans (HB5.out.mono HB.out.size))).mono ?_
      rintro e w6 ⟨rfl, hb6⟩
      have HB6 := Lib.hid (HB5.out.trans (hb6.mono HB5.out.size)); clear hb6
      refine hK.out _ _ HB6.out (fun _ => ?_)
      clear hK K
      have HL : Hid (less ((find fs x.key).num, (find fs x.key).node) (x.num, x.node) = isNew fs x) := Lib.hid rfl
      generalize find fs x.key = y at HL ⊢
      unfold ev
      refine take_in (i := 4) (oi := ⟨_, _, _, _, _, _⟩) (v := ?_) rfl (by kernel_rfl) (by kernel_rfl) (by kernel_rfl) (fun _ _ _ h => h) (by rfl) ?_ HB6.out ?_
      rotate_left
      · intro W hW; go_simp; with_reducible rfl
      simp only [Act.put, List.setIfInBounds_toArray, List.set_cons_zero, List.set_cons_succ]
      refine wpAnyH_ready (rs := [7]) (by kernel_rfl) (by simp) ?_
      refine AllReadyH.cons (o := ⟨_, _, _, _, _, _⟩) rfl (fun K hK => ?_) AllReadyH.nil
      go_simp
      refine (Tgw.less_r (y.num, y.node) (x.num, x.node) _).mono ?_
      rw [HL.out]
      rintro e w7 ⟨rfl, hb7⟩
      have HB7 := Lib.hid (HB6.out.trans (hb7.mono HB6.out.size)); clear hb7
      refine hK.out _ _ HB7.out (fun _ => ?_)
      clear hK K
      refine wpAnyH_done (by kernel_rfl) ?_ _
      cases ht : isNew fs x with
      | true =>
        have HRF := Lib.hid (HF.out k x HX.out ht)
        clear ht
        go_wp2
        go_ret
        exact ⟨ret_bool HRF.out.symm, HB.out.trans (HB7.out.mono HB.out.size)⟩
      | false =>
        have HM := Lib.hid (all_more es (fun x => !isNew fs x) k x HX.out (by rw [ht]; rfl) HA.out)
        clear ht
        go_wp2
        exact ⟨⟨k + 1, by go_num, by omega, HM.out, HB.out.trans (HB7.out.mono HB.out.size)⟩, by simp [intOf]; omega⟩
    · obtain rfl : k = n := by omega
      have HRT := Lib.hid (HT.out HA.out)
      go_wp2
      go_ret
      exact ⟨ret_bool HRT.out.symm, HB.out⟩
theorem news_take (old l : List E) (k : Nat) (x : E) (h : l[k]? = some x) : news old (l.take (k + 1)) = news old (l.take k) ++ if isNew old x then [x] else [] := by
  unfold news
  rw [List.take_add_one, h, List.filter_append]
  congr 1
  simp only [Option.toList_some, List.filter_cons, List.filter_nil]
theorem news_len (old l : List E) : (news old l).length ≤ l.length := List.length_filter_le _ _
set_option maxHeartbeats 1000000 in
theorem news_r (A2 : Option Addr) (n2 c2 : Nat) (fs : List E) (hn2 : n2 = fs.length) (hl2 : n2 ≤ 140737488355328) (A : Option Addr) (n c : Nat) (es : List E) (hn : n = es.length) (hl : n * 32 ≤ 140737488355328) (B : Nat) (w : World) (hr : Re w B A es) (hr2 : Re w B A2 fs) (hB : B ≤ w.heap.size) :
    Calls Try.prog 20 #[.slice A2 n2 c2, .slice A n c] w (RetOwnE w w.heap.size (news fs es)) := by
  have hsf := store_flt
  have hft := field_tag
  have HN := Lib.hid hn; have HR := Lib.hid hr
  have HFD : Hid (∀ (key : Int) (W : World), Below w.heap.size w W → Calls Try.prog 33 #[.slice A2 n2 c2, .int .i64 key] W fun e w' => e = .returned (ev (find fs key)) ∧ Below W.heap.size W w') := Lib.hid (fun key W hW => find_r A2 n2 c2 fs hn2 hl2 key B W (hr2.below (hW.mono hB)) (Nat.le_trans hB hW.size))
  clear hn hr hr2 hn2 hl2
  go_enter Try.func20, Try.ntmps20
  go_wp2
  go_loopw [5, 11] (fun x i wr => ∃ (A3 : Option Addr) (m c3 k : Nat), x = .slice A3 m c3 ∧ i = .int .i64 k ∧ k ≤ n ∧ OwnE wr w.heap.size A3 m c3 (news fs (es.take k)) ∧ Below w.heap.size w wr) (fun _ i _ => n - (intOf i).toNat)
  case atStart => exact ⟨_, 0, 0, 0, rfl, rfl, by omega, ownE_new _ _ _ rfl (Nat.le_refl _), bal (Below.refl _ _) (Nat.le_refl _) _⟩
  case round =>
    obtain ⟨A3, m, c3, k, rfl, rfl, hk, ho, hb⟩ := hrel
    have HB := Lib.hid hb; have HO := Lib.hid ho
    have hmk : m ≤ k := by rw [ho.1]; exact Nat.le_trans (news_len fs _) (List.length_take_le k es)
    have hsz := hb.size
    clear hb ho
    by_cases h : k < n
    · obtain ⟨b, o, rfl, hbB, hcell⟩ := HR.out (by rw [← HN.out]; omega)
      have hkl : k < es.length := by rw [← HN.out]; exact h
      have hz : es[k]? = some es[k] := List.getElem?_eq_getElem hkl
      have hc0 := (hcell k es[k] hz).below (HB.out.mono hB) hbB
      generalize es[k] = x at hz hc0
      obtain ⟨x0, x1, x2, x3⟩ := hc0
      have HNT := Lib.hid (news_take fs es k x hz)
      clear hz hcell hkl
      go_wp2_with fail
      have VX := Lib.hid (show Ex (wr.alloc (.cells #[.int .i64 x.key, .int .i64 x.num, .int .i64 x.node, .float .f64 x.val] 26)) wr.heap.size x from hat _ _ _ rfl)
      have HO := Lib.hid (HO.out.alloc (.cells #[.int .i64 x.key, .int .i64 x.num, .int .i64 x.node, .float .f64 x.val] 26))
      have HB := Lib.hid (bal HB.out (Nat.le_refl _) (.cells #[.int .i64 x.key, .int .i64 x.num, .int .i64 x.node, .float .f64 x.val] 26))
      generalize wr.alloc (.cells #[.int .i64 x.key, .int .i64 x.num, .int .i64 x.node, .float .f64 x.val] 26) = w1 at VX HB HO ⊢
      generalize wr.heap.size = gx at VX ⊢
      have HK : Hid (∀ W', Below w1.heap.size w1 W' → W'.cell? ⟨gx, 0, none⟩ = some (.int .i64 x.key) ∧ W'.cell? ⟨gx, 1, none⟩ = some (.int .i64 x.num) ∧ W'.cell? ⟨gx, 2, none⟩ = some (.int .i64 x.node) ∧ W'.cell? ⟨gx, 3, none⟩ = some (.float .f64 x.val)) := Lib.hid (fun W' h => ⟨(VX.out.all h).c0, (VX.out.all h).c1, (VX.out.all h).c2, (VX.out.all h).c3⟩)
      clear x0 x1 x2 x3
      refine wp_region_held_drew (S := fun W' => Below w1.heap.size w1 W') (by kernel_rfl) (Below.refl _ _).drew (fun hHeld => ?_)
      generalize w1.drew = w5 at hHeld ⊢
      have HB5 : Hid (Below w1.heap.size w1 w5) := hHeld
      clear hHeld
      refine take_in (i := 0) (oi := ⟨_, _, _, _, _, _⟩) (v := ?_) rfl (by kernel_rfl) (by kernel_rfl) (by kernel_rfl) (fun _ _ _ h => h) (by rfl) ?_ HB5.out ?_
      rotate_left
      · intro W hW; have hq := HK.out W hW; go_simp; with_reducible rfl
      simp only [Act.put, List.setIfInBounds_toArray, List.set_cons_zero, List.set_cons_succ]
      refine take_in (i := 1) (oi := ⟨_, _, _, _, _, _⟩) (v := ?_) rfl (by kernel_rfl) (by kernel_rfl) (by kernel_rfl) (fun _ _ _ h => h) (by rfl) ?_ HB5.out ?_
      rotate_left
      · intro W hW; have hq := HK.out W hW; go_simp; with_reducible rfl
      simp only [Act.put, List.setIfInBounds_toArray, List.set_cons_zero, List.set_cons_succ]
      refine take_in (i := 2) (oi := ⟨_, _, _, _, _, _⟩) (v := ?_) rfl (by kernel_rfl) (by kernel_rfl) (by kernel_rfl) (fun _ _ _ h => h) (by rfl) ?_ HB5.out ?_
      rotate_left
      · intro W hW; have hq := HK.out W hW; go_simp; with_reducible rfl
      simp only [Act.put, List.setIfInBounds_toArray, List.set_cons_zero, List.set_cons_succ]
      refine take_in (i := 5) (oi := ⟨_, _, _, _, _, _⟩) (v := ?_) rfl (by kernel_rfl) (by kernel_rfl) (by kernel_rfl) (fun _ _ _ h => h) (by rfl) ?_ HB5.out ?_
      rotate_left
      · intro W hW; have hq := HK.out W hW; go_simp; with_reducible rfl
      simp only [Act.put, List.setIfInBounds_toArray, List.set_cons_zero, List.set_cons_succ]
      refine take_in (i := 6) (oi := ⟨_, _, _, _, _, _⟩) (v := ?_) rfl (by kernel_rfl) (by kernel_rfl) (by kernel_rfl) (fun _ _ _ h => h) (by rfl) ?_ HB5.out ?_
      rotate_left
      · intro W hW; have hq := HK.out W hW; go_simp; with_reducible rfl
      simp only [Act.put, List.setIfInBounds_toArray, List.set_cons_zero, List.set_cons_succ]
      refine wpAnyH_ready (rs := [3]) (by kernel_rfl) (by simp) ?_
      refine AllReadyH.cons (o := ⟨_, _, _, _, _, _⟩) rfl (fun K hK => ?_) AllReadyH.nil
      go_simp
      refine (HFD.out x.key _ (HB.out.trans (HB5.out.mono HB.out.size))).mono ?_
      rintro e w6 ⟨rfl, hb6⟩
      have HB6 := Lib.hid (HB5.out.trans (hb6.mono HB5.out.size)); clear hb6
      refine hK.out _ _ HB6.out (fun _ => ?_)
      clear hK K
      have HL : Hid (less ((find fs x.key).num, (find fs x.key).node) (x.num, x.node) = isNew fs x) := Lib.hid rfl
      generalize find fs x.key = y at HL ⊢
      unfold ev
      refine take_in (i := 4) (oi := ⟨_, _, _, _, _, _⟩) (v := ?_) rfl (by kernel_rfl) (by kernel_rfl) (by kernel_rfl) (fun _ _ _ h => h) (by rfl) ?_ HB6.out ?_
      rotate_left
      · intro W hW; go_simp; with_reducible rfl
      simp only [Act.put, List.setIfInBounds_toArray, List.set_cons_zero, List.set_cons_succ]
      refine wpAnyH_ready (rs := [7]) (by kernel_rfl) (by simp) ?_
      refine AllReadyH.cons (o := ⟨_, _, _, _, _, _⟩) rfl (fun K hK => ?_) AllReadyH.nil
      go_simp
      refine (Tgw.less_r (y.num, y.node) (x.num, x.node) _).mono ?_
      rw [HL.out]
      rintro e w7 ⟨rfl, hb7⟩
      have HB7 := Lib.hid (HB6.out.trans (hb7.mono HB6.out.size)); clear hb7
      refine hK.out _ _ HB7.out (fun _ => ?_)
      clear hK K
      refine wpAnyH_done (by kernel_rfl) ?_ _
      have HO := Lib.hid (HO.out.below HB7.out (Nat.le_refl _))
      have VX := Lib.hid (VX.out.all HB7.out)
      have HBZ := Lib.hid (HB.out.trans (HB7.out.mono HB.out.size))
      cases ht : isNew fs x with
      | true =>
        rw [ht] at HNT
        clear ht
        have x0 := VX.out.c0; have x1 := VX.out.c1; have x2 := VX.out.c2; have x3 := VX.out.c3
        go_wp2_with (at_builtin; refine wp_appE rfl (.tmp 23) (.tmp 25) rfl w.heap.size A3 m c3 _ rfl (HO.out.alloc _) w7.heap.size 0 1 1 [x] rfl rfl (one_cells w7 [x]) (by omega) (Nat.le_trans HBZ.out.size (by simp)) ?_; intro A4 c4 w8 ho4 hb4)
        refine ⟨⟨A4, m + 1, c4, k + 1, rfl, by go_num, by omega, ?_, (bal HBZ.out (Nat.le_refl _) _).trans hb4⟩, by simp [intOf]; omega⟩
        rw [HNT.out]
        exact ho4
      | false =>
        rw [ht] at HNT
        clear ht
        go_wp2
        refine ⟨⟨A3, m, c3, k + 1, rfl, by go_num, by omega, ?_, HBZ.out⟩, by simp [intOf]; omega⟩
        rw [HNT.out]
        simpa using HO.out
    · obtain rfl : k = n := by omega
      have HOF := Lib.hid (show OwnE wr w.heap.size A3 m c3 (news fs es) from by have := HO.out; rwa [List.take_of_length_le (by rw [← HN.out]; omega)] at this)
      go_wp2
      go_ret
      exact ⟨A3, m, c3, rfl, HOF.out, HB.out⟩
end Go.Proofs.Ytjcpdhekilkhgaa.Bkw
