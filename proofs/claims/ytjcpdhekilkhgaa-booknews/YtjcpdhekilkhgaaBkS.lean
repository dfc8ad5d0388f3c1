/- What the document's Same, Within, News, Check and Merge of layer 7 answer: contracts by walks. -/
import Derived.Test.YtjcpdhekilkhgaaBkR
namespace Go.Proofs.Ytjcpdhekilkhgaa.Bkw
open Go.RowKit
open Tg Bk
open Tgw (bal hat hbe ret_bool tv)

theorem same_false (a b : List E) (i : Nat) (x y : E) (hx : a[i]? = some x) (hy : b[i]? = some y) (h : alike x y = false) : same a b = false := by
  rw [← Bool.not_eq_true, same_iff]
  rintro ⟨_, h2⟩
  rw [h2 i x y hx hy] at h
  cases h
set_option maxHeartbeats 1000000 in
theorem same_r (A : Option Addr) (n c : Nat) (es : List E) (hn : n = es.length) (hl : n ≤ 140737488355328) (hw : ∀ e ∈ es, Flt.U64 e.val) (A2 : Option Addr) (n2 c2 : Nat) (fs : List E) (hn2 : n2 = fs.length) (hw2 : ∀ e ∈ fs, Flt.U64 e.val) (B : Nat) (w : World) (hr : Re w B A es) (hr2 : Re w B A2 fs) (hB : B ≤ w.heap.size) :
    Calls Try.prog 14 #[.slice A n c, .slice A2 n2 c2] w fun e w' => e = .returned (.bool (same es fs)) ∧ Below w.heap.size w w' := by
  have HN := Lib.hid hn; have HN2 := Lib.hid hn2
  have HR := Lib.hid hr; have HR2 := Lib.hid hr2
  have HW := Lib.hid hw; have HW2 := Lib.hid hw2
  clear hr hr2 hw hw2
  by_cases hnn : n = n2
  · subst hnn
    have HF : Hid (∀ (i : Nat) x y, es[i]? = some x → fs[i]? = some y → alike x y = false → same es fs = false) := Lib.hid (same_false es fs)
    have HT : Hid ((∀ (i : Nat) x y, i < n → es[i]? = some x → fs[i]? = some y → alike x y = true) → same es fs = true) := Lib.hid (fun h => (same_iff es fs).2 ⟨by rw [← hn, ← hn2], fun i x y hx hy => h i x y (by
      rw [hn]
      rcases Nat.lt_or_ge i es.length with h' | h'
      · exact h'
      · rw [List.getElem?_eq_none h'] at hx; cases hx) hx hy⟩)
    generalize same es fs = r at HF HT ⊢
    clear hn hn2
    go_enter Try.func14, Try.ntmps14
    go_wp2
    go_loopw [13] (fun i wr => ∃ k : Nat, i = .int .i64 k ∧ k ≤ n ∧ (∀ (i : Nat) x y, i < k → es[i]? = some x → fs[i]? = some y → alike x y = true) ∧ Below w.heap.size w wr) (fun i _ => n - (intOf i).toNat)
    case atStart => exact ⟨0, rfl, by omega, fun i x y hi => by omega, Below.refl _ _⟩
    case round =>
      obtain ⟨k, rfl, hk, hall, hb⟩ := hrel
      have HB := Lib.hid hb; have HA := Lib.hid hall
      have hsz := hb.size
      clear hb hall
      by_cases h : k < n
      · obtain ⟨b, o, rfl, hbB, hcell⟩ := HR.out (by rw [← HN.out]; omega)
        obtain ⟨b2, o2, rfl, hbB2, hcell2⟩ := HR2.out (by rw [← HN2.out]; omega)
        have hkl : k < es.length := by rw [← HN.out]; exact h
        have hkl2 : k < fs.length := by rw [← HN2.out]; exact h
        have hz : es[k]? = some es[k] := List.getElem?_eq_getElem hkl
        have hz2 : fs[k]? = some fs[k] := List.getElem?_eq_getElem hkl2
        have hc0 := hcell k es[k] hz
        have hc1 := hcell2 k fs[k] hz2
        have HU := Lib.hid (HW.out es[k] (List.getElem_mem hkl))
        have HU2 := Lib.hid (HW2.out fs[k] (List.getElem_mem hkl2))
        generalize es[k] = x at hz hc0 HU
        generalize fs[k] = y at hz2 hc1 HU2
        have HK : Hid (∀ W, Below w.heap.size w W → (W.cell? ⟨b, o + k * 4, none⟩ = some (.int .i64 x.key) ∧ W.cell? ⟨b, o + k * 4 + 1, none⟩ = some (.int .i64 x.num) ∧ W.cell? ⟨b, o + k * 4 + 2, none⟩ = some (.int .i64 x.node) ∧ W.cell? ⟨b, o + k * 4 + 3, none⟩ = some (.float .f64 x.val)) ∧ (W.cell? ⟨b2, o2 + k * 4, none⟩ = some (.int .i64 y.key) ∧ W.cell? ⟨b2, o2 + k * 4 + 1, none⟩ = some (.int .i64 y.num) ∧ W.cell? ⟨b2, o2 + k * 4 + 2, none⟩ = some (.int .i64 y.node) ∧ W.cell? ⟨b2, o2 + k * 4 + 3, none⟩ = some (.float .f64 y.val))) := Lib.hid (fun W hW => ⟨hc0.below (hW.mono hB) hbB, hc1.below (hW.mono hB) hbB2⟩)
        have HX := Lib.hid hz; have HY := Lib.hid hz2
        clear hz hz2 hc0 hc1 hcell hcell2 hkl hkl2
        go_wp2_with fail
        have hi1 : (k : Int) < (n : Int) := by omega
        refine wp_region_held_drew (S := fun W' => Below w.heap.size w W') (by kernel_rfl) HB.out.drew (fun hHeld => ?_)
        generalize wr.drew = w5 at hHeld ⊢
        have HB5 : Hid (Below w.heap.size w w5) := hHeld
        clear hHeld
        refine take_in (i := 0) (oi := ⟨_, _, _, _, _, _⟩) (v := ?_) rfl (by kernel_rfl) (by kernel_rfl) (by kernel_rfl) (fun _ _ _ h => h) (by rfl) ?_ HB5.out ?_
        rotate_left
        · intro W hW; have hq := HK.out W hW; go_simp; with_reducible rfl
        simp only [Act.put, List.setIfInBounds_toArray, List.set_cons_zero, List.set_cons_succ]
        refine take_in (i := 1) (oi := ⟨_, _, _, _, _, _⟩) (v := ?_) rfl (by kernel_rfl) (by kernel_rfl) (by kernel_rfl) (fun _ _ _ h => h) (by rfl) ?_ HB5.out ?_
        rotate_left
        · intro W hW; have hq := HK.out W hW; go_simp; with_reducible rfl
        simp only [Act.put, List.setIfInBounds_toArray, List.set_cons_zero, List.set_cons_succ]
        refine take_in (i := 2) (oi := ⟨_, _, _, _, _, _⟩) (v := ?_) rfl (by kernel_rfl) (by kernel_rfl) (by kernel_rfl) (fun _ _ _ h => h) (by rfl) ?_ HB5.out ?_
        rotate_left
        · intro W hW; have hq := HK.out W hW; go_simp; with_reducible rfl
        simp only [Act.put, List.setIfInBounds_toArray, List.set_cons_zero, List.set_cons_succ]
        refine take_in (i := 3) (oi := ⟨_, _, _, _, _, _⟩) (v := ?_) rfl (by kernel_rfl) (by kernel_rfl) (by kernel_rfl) (fun _ _ _ h => h) (by rfl) ?_ HB5.out ?_
        rotate_left
        · intro W hW; have hq := HK.out W hW; go_simp; with_reducible rfl
        simp only [Act.put, List.setIfInBounds_toArray, List.set_cons_zero, List.set_cons_succ]
        refine take_in (i := 4) (oi := ⟨_, _, _, _, _, _⟩) (v := ?_) rfl (by kernel_rfl) (by kernel_rfl) (by kernel_rfl) (fun _ _ _ h => h) (by rfl) ?_ HB5.out ?_
        rotate_left
        · intro W hW; have hq := HK.out W hW; go_simp; with_reducible rfl
        simp only [Act.put, List.setIfInBounds_toArray, List.set_cons_zero, List.set_cons_succ]
        refine take_in (i := 5) (oi := ⟨_, _, _, _, _, _⟩) (v := ?_) rfl (by kernel_rfl) (by kernel_rfl) (by kernel_rfl) (fun _ _ _ h => h) (by rfl) ?_ HB5.out ?_
        rotate_left
        · intro W hW; have hq := HK.out W hW; go_simp; with_reducible rfl
        simp only [Act.put, List.setIfInBounds_toArray, List.set_cons_zero, List.set_cons_succ]
        refine take_in (i := 6) (oi := ⟨_, _, _, _, _, _⟩) (v := ?_) rfl (by kernel_rfl) (by kernel_rfl) (by kernel_rfl) (fun _ _ _ h => h) (by rfl) ?_ HB5.out ?_
        rotate_left
        · intro W hW; have hq := HK.out W hW; go_simp; with_reducible rfl
        simp only [Act.put, List.setIfInBounds_toArray, List.set_cons_zero, List.set_cons_succ]
        refine take_in (i := 7) (oi := ⟨_, _, _, _, _, _⟩) (v := ?_) rfl (by kernel_rfl) (by kernel_rfl) (by kernel_rfl) (fun _ _ _ h => h) (by rfl) ?_ HB5.out ?_
        rotate_left
        · intro W hW; have hq := HK.out W hW; go_simp; with_reducible rfl
        simp only [Act.put, List.setIfInBounds_toArray, List.set_cons_zero, List.set_cons_succ]
        refine wpAnyH_ready (rs := [8]) (by kernel_rfl) (by simp) ?_
        refine AllReadyH.cons (o := ⟨_, _, _, _, _, _⟩) rfl (fun K hK => ?_) AllReadyH.nil
        go_simp
        refine (alike_r x y HU.out HU2.out _).mono ?_
        rintro e w6 ⟨rfl, hb6⟩
        have HB6 := Lib.hid (HB5.out.trans (hb6.mono HB5.out.size)); clear hb6
        refine hK.out _ _ HB6.out (fun _ => ?_)
        clear hK K
        have HAL : Hid (∀ t, alike x y = t → t = false → r = false) := Lib.hid (fun t h1 h2 => HF.out k x y HX.out HY.out (h1.trans h2))
        have HAT : Hid (∀ t, alike x y = t → t = true → alike x y = true) := Lib.hid (fun t h1 h2 => h1.trans h2)
        generalize ht : alike x y = t at HAL
        have HTT := Lib.hid ht; clear ht
        refine take_in (i := 9) (oi := ⟨_, _, _, _, _, _⟩) (v := ?_) rfl (by kernel_rfl) (by kernel_rfl) (by kernel_rfl) (fun _ _ _ h => h) (by rfl) ?_ HB6.out ?_
        rotate_left
        · intro W hW; go_simp; with_reducible rfl
        simp only [Act.put, List.setIfInBounds_toArray, List.set_cons_zero, List.set_cons_succ]
        refine wpAnyH_done (by kernel_rfl) ?_ _
        cases t with
        | false =>
          have HRF := Lib.hid (HAL.out false rfl rfl)
          go_wp2
          go_ret
          exact ⟨ret_bool HRF.out.symm, HB6.out⟩
        | true =>
          go_wp2
          refine ⟨⟨k + 1, by go_num, by omega, ?_, HB6.out⟩, by simp [intOf]; omega⟩
          intro j u v hj hu hv
          rcases Nat.lt_or_ge j k with h' | h'
          · exact HA.out j u v h' hu hv
          · obtain rfl : j = k := by omega
            have e1 := HX.out
            have e2 := HY.out
            rw [hu] at e1
            rw [hv] at e2
            cases e1; cases e2
            exact HTT.out
      · obtain rfl : k = n := by omega
        have HRT := Lib.hid (HT.out HA.out)
        go_wp2
        go_ret
        exact ⟨ret_bool HRT.out.symm, HB.out⟩
  · have HS : Hid (same es fs = false) := Lib.hid (by
      rw [← Bool.not_eq_true, same_iff]
      rintro ⟨h1, _⟩
      exact hnn (by rw [hn, hn2, h1]))
    have hq : ((n : Int) != (n2 : Int)) = true := by rw [bne_iff_ne]; omega
    clear hn hn2 hnn
    go_enter Try.func14, Try.ntmps14
    go_wp2
    go_ret
    exact ⟨ret_bool HS.out.symm, Below.refl _ _⟩
end Go.Proofs.Ytjcpdhekilkhgaa.Bkw
