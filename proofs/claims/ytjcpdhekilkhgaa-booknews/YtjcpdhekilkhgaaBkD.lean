/- What package book answers, as it landed: contracts by walks. Second part: Get, Same. -/
import Derived.Test.YtjcpdhekilkhgaaBkB
namespace Go.Proofs.Ytjcpdhekilkhgaa.Bkw
open Go.RowKit
open Tg Bk
open Tgw (bal hat hbe ret_bool tv)

set_option maxHeartbeats 1000000 in
theorem get_c (A : Option Addr) (n c : Nat) (es : List E) (key : Int) (_hkey : I64 key) (w : World) (h : So w A n c es) (_hb : isBook es = true) : Calls Try.prog 9 #[.slice A n c, .int .i64 key] w (RetE w (getF es key) (getN key)) := by
  have hsf := store_flt
  have HF : Hid (∀ W, Below w.heap.size w W → Calls Try.prog 26 #[.slice A n c, .int .i64 key] W fun e w' => e = .returned (ev (find es key)) ∧ Below W.heap.size W w') := Lib.hid (fun W hW => of_c A n c es h.1 (by have := h.2.2.1; omega) key w.heap.size W (h.2.2.2.2.below hW) hW.size)
  clear h _hb _hkey
  by_cases h : 0 ≤ key ∧ key ≤ 3
  · have HG : Hid (getF es key = find es key) := Lib.hid (if_pos h)
    have HM : Hid (getN key = 0) := Lib.hid (if_pos h)
    have HD := Lib.hid (decide_eq_true h)
    generalize find es key = x at HF HG
    obtain ⟨xk, xn, xd, xv⟩ := x
    generalize getF es key = gx at HG ⊢
    generalize getN key = gn at HM ⊢
    clear h
    go_enter Try.func9, Try.ntmps9
    go_wp2_with fail
    refine (key_c key _).mono ?_
    rw [HD.out]
    rintro e w2 ⟨rfl, rfl⟩
    go_wp2_with fail
    refine (HF.out _ (bal (Below.refl _ _) (Nat.le_refl _) _)).mono ?_
    rintro e w2 ⟨rfl, hb2⟩
    have V0 := Lib.hid (show Ex w2 w.heap.size (zero 0) from Ex.all (show Ex (w.alloc _) w.heap.size (zero 0) from hat _ _ _ rfl) hb2)
    have HB := Lib.hid ((bal (Below.refl w.heap.size w) (Nat.le_refl _) _).trans (hb2.mono (by simp))); clear hb2
    have z0 := V0.out.c0; have z1 := V0.out.c1; have z2 := V0.out.c2; have z3 := V0.out.c3
    have f0 := frozen_of_row w2 w.heap.size 0 _ _ V0.out
    have f1 := frozen_of_row w2 w.heap.size 1 _ _ V0.out
    have f2 := frozen_of_row w2 w.heap.size 2 _ _ V0.out
    have f3 := frozen_of_row w2 w.heap.size 3 _ _ V0.out
    unfold ev
    go_wp2
    refine bodyPost_ret (results_entry2 (g := w.heap.size) (e := ⟨xk, xn, xd, xv⟩) rfl rfl rfl (V0.out.put ⟨xk, xn, xd, xv⟩)) rfl ?_
    exact ⟨by rw [HG.out, HM.out]; rfl, (((HB.out.setCell (Nat.le_refl _) _).setCell (Nat.le_refl _) _).setCell (Nat.le_refl _) _).setCell (Nat.le_refl _) _⟩
  · have HG : Hid (getF es key = zero 0) := Lib.hid (if_neg h)
    have HM : Hid (getN key = 71) := Lib.hid (if_neg h)
    have HD := Lib.hid (decide_eq_false h)
    generalize getF es key = gx at HG ⊢
    generalize getN key = gn at HM ⊢
    clear h
    go_enter Try.func9, Try.ntmps9
    go_wp2_with fail
    refine (key_c key _).mono ?_
    rw [HD.out]
    rintro e w2 ⟨rfl, rfl⟩
    have V0 := Lib.hid (show Ex (w.alloc (.cells #[.int .i64 0, .int .i64 0, .int .i64 0, .float .f64 0] 26)) w.heap.size (zero 0) from hat _ _ _ rfl)
    have HB := Lib.hid (bal (Below.refl w.heap.size w) (Nat.le_refl _) (.cells #[.int .i64 0, .int .i64 0, .int .i64 0, .float .f64 0] 26))
    generalize w.alloc (.cells #[.int .i64 0, .int .i64 0, .int .i64 0, .float .f64 0] 26) = w2 at V0 HB ⊢
    have z0 := V0.out.c0; have z1 := V0.out.c1; have z2 := V0.out.c2; have z3 := V0.out.c3
    have f0 := frozen_of_row w2 w.heap.size 0 _ _ V0.out
    have f1 := frozen_of_row w2 w.heap.size 1 _ _ V0.out
    have f2 := frozen_of_row w2 w.heap.size 2 _ _ V0.out
    have f3 := frozen_of_row w2 w.heap.size 3 _ _ V0.out
    go_wp2
    refine bodyPost_ret (results_entry2 (g := w.heap.size) (e := zero 0) rfl rfl rfl (V0.out.put (zero 0))) rfl ?_
    exact ⟨by rw [HG.out, HM.out]; rfl, (((HB.out.setCell (Nat.le_refl _) _).setCell (Nat.le_refl _) _).setCell (Nat.le_refl _) _).setCell (Nat.le_refl _) _⟩
set_option maxHeartbeats 1000000 in
theorem alike_c (x y : E) (w : World) : Calls Try.prog 31 #[ev x, ev y] w fun e w' => e = .returned (.bool (alike x y)) ∧ Below w.heap.size w w' := by
  have heq := eq_tagE
  obtain ⟨a, b, c, d⟩ := x
  obtain ⟨a', b', c', d'⟩ := y
  have HA : Hid (alike ⟨a, b, c, d⟩ ⟨a', b', c', d'⟩ = (decide (a = a') && (decide (b = b' ∧ c = c') && Flt.sameB d d'))) := Lib.hid rfl
  generalize alike ⟨a, b, c, d⟩ ⟨a', b', c', d'⟩ = r at HA ⊢
  have HS := Lib.hid (fun W => Nmw.same_c d d' W)
  generalize Flt.sameB d d' = v at HA HS
  unfold ev
  simp only
  have HBB := Lib.hid (bal (bal (Below.refl w.heap.size w) (Nat.le_refl _) (.cells #[.int .i64 a, .int .i64 b, .int .i64 c, .float .f64 d] 26)) (Nat.le_refl _) (.cells #[.int .i64 a', .int .i64 b', .int .i64 c', .float .f64 d'] 26))
  by_cases h1 : a = a'
  · have hq : (a == a') = true := by rw [beq_iff_eq]; exact h1
    by_cases h2 : b = b' ∧ c = c'
    · have hq2 : (b == b' && c == c') = true := by simp only [Bool.and_eq_true, beq_iff_eq]; exact h2
      rw [decide_eq_true h1, decide_eq_true h2, Bool.true_and, Bool.true_and] at HA
      clear h1 h2
      go_enter Try.func31, Try.ntmps31
      go_wp2_with fail
      refine (HS.out _).mono ?_
      rintro e w3 ⟨rfl, rfl⟩
      go_wp2
      all_goals go_ret
      all_goals exact ⟨ret_bool HA.out.symm, HBB.out⟩
    · have hq2 : (b == b' && c == c') = false := by rw [← Bool.not_eq_true]; simp only [Bool.and_eq_true, beq_iff_eq]; exact h2
      rw [decide_eq_false h2, Bool.false_and, Bool.and_false] at HA
      clear h1 h2
      go_enter Try.func31, Try.ntmps31
      go_wp2
      all_goals go_ret
      all_goals exact ⟨ret_bool HA.out.symm, HBB.out⟩
  · have hq : (a == a') = false := by rw [beq_eq_false_iff_ne]; exact h1
    rw [decide_eq_false h1, Bool.false_and] at HA
    clear h1
    go_enter Try.func31, Try.ntmps31
    go_wp2
    all_goals go_ret
    all_goals exact ⟨ret_bool HA.out.symm, HBB.out⟩
set_option maxHeartbeats 1000000 in
theorem equal_c (A : Option Addr) (n c : Nat) (es : List E) (hn : n = es.length) (hl : n ≤ 140737488355328) (A2 : Option Addr) (n2 c2 : Nat) (fs : List E) (hn2 : n2 = fs.length) (B : Nat) (w : World) (hr : Re w B A es) (hr2 : Re w B A2 fs) (hB : B ≤ w.heap.size) :
    Calls Try.prog 30 #[.slice A n c, .slice A2 n2 c2, .func (.func 31) #[] #[]] w fun e w' => e = .returned (.bool (same es fs)) ∧ Below w.heap.size w w' := by
  have hsf := store_flt
  have HN := Lib.hid hn; have HN2 := Lib.hid hn2
  have HR := Lib.hid hr; have HR2 := Lib.hid hr2
  clear hr hr2
  by_cases hnn : n = n2
  · subst hnn
    have HF : Hid (∀ (i : Nat) x y, es[i]? = some x → fs[i]? = some y → alike x y = false → same es fs = false) := Lib.hid (same_false es fs)
    have HT : Hid ((∀ (i : Nat) x y, i < n → es[i]? = some x → fs[i]? = some y → alike x y = true) → same es fs = true) := Lib.hid (fun h => (same_iff es fs).2 ⟨by rw [← hn, ← hn2], fun i x y hx hy => h i x y (by
      rw [hn]
      rcases Nat.lt_or_ge i es.length with h' | h'
      · exact h'
      · rw [List.getElem?_eq_none h'] at hx; cases hx) hx hy⟩)
    generalize same es fs = r at HF HT ⊢
    clear hn hn2
    go_enter Try.func30, Try.ntmps30
    go_wp2
    go_loopw [17] (fun i wr => ∃ k : Nat, i = .int .i64 k ∧ k ≤ n ∧ (∀ (i : Nat) x y, i < k → es[i]? = some x → fs[i]? = some y → alike x y = true) ∧ Below w.heap.size w wr) (fun i _ => n - (intOf i).toNat)
    case atStart => exact ⟨0, rfl, by omega, fun i x y hi => by omega, Below.refl _ _⟩
    case round =>
      obtain ⟨k, rfl, hk, hall, hb⟩ := hrel
      have HB := Lib.hid hb; have HA := Lib.hid hall
      have hsz := hb.size
      clear hb hall
      by_cases h : k < n
      · obtain ⟨b, o, rfl, hbB, hcell⟩ := HR.out (by rw [← HN.out]; omega)
        obtain ⟨b2, o2, rfl, hbB2, hcell2⟩ := HR2.out (by rw [← HN2.out]; omega)
        have hkl : k < es.length := by rw [← HN.out]; exact h
        have hkl2 : k < fs.length := by rw [← HN2.out]; exact h
        have hz : es[k]? = some es[k] := List.getElem?_eq_getElem hkl
        have hz2 : fs[k]? = some fs[k] := List.getElem?_eq_getElem hkl2
        have hc0 := (hcell k es[k] hz).below (HB.out.mono hB) hbB
        have hc1 := (hcell2 k fs[k] hz2).below (HB.out.mono hB) hbB2
        generalize es[k] = x at hz hc0
        generalize fs[k] = y at hz2 hc1
        obtain ⟨xk, xn, xd, xv⟩ := x
        obtain ⟨yk, yn, yd, yv⟩ := y
        have hc2 : Four (wr.alloc (.cells #[.int .i64 xk, .int .i64 xn, .int .i64 xd, .float .f64 xv] 26)) b2 (o2 + k * 4) ⟨yk, yn, yd, yv⟩ := hc1.below (bal (Below.refl wr.heap.size wr) (Nat.le_refl _) _) (by omega)
        obtain ⟨x0, x1, x2, x3⟩ := hc0
        obtain ⟨y0, y1, y2, y3⟩ := hc2
        have HX := Lib.hid hz; have HY := Lib.hid hz2
        clear hz hz2 hc1 hcell hcell2 hkl hkl2
        go_wp2_with fail
        have HBW := Lib.hid (bal (bal HB.out (Nat.le_refl _) (.cells #[.int .i64 xk, .int .i64 xn, .int .i64 xd, .float .f64 xv] 26)) (Nat.le_refl _) (.cells #[.int .i64 yk, .int .i64 yn, .int .i64 yd, .float .f64 yv] 26))
        generalize (wr.alloc (.cells #[.int .i64 xk, .int .i64 xn, .int .i64 xd, .float .f64 xv] 26)).alloc (.cells #[.int .i64 yk, .int .i64 yn, .int .i64 yd, .float .f64 yv] 26) = w1 at HBW ⊢
        clear x0 x1 x2 x3 y0 y1 y2 y3
        refine (alike_c ⟨xk, xn, xd, xv⟩ ⟨yk, yn, yd, yv⟩ _).mono ?_
        rintro e w6 ⟨rfl, hb6⟩
        have HB6 := Lib.hid (HBW.out.trans (hb6.mono HBW.out.size)); clear hb6
        have HAL : Hid (∀ t, alike ⟨xk, xn, xd, xv⟩ ⟨yk, yn, yd, yv⟩ = t → t = false → r = false) := Lib.hid (fun t h1 h2 => HF.out k _ _ HX.out HY.out (h1.trans h2))
        generalize ht : alike ⟨xk, xn, xd, xv⟩ ⟨yk, yn, yd, yv⟩ = t at HAL
        have HTT := Lib.hid ht; clear ht
        cases t with
        | false =>
          have HRF := Lib.hid (HAL.out false rfl rfl)
          go_wp2
          go_ret
          exact ⟨ret_bool HRF.out.symm, HB6.out⟩
        | true =>
          go_wp2
          refine ⟨⟨k + 1, by go_num, by omega, ?_, HB6.out⟩, by simp [intOf]; omega⟩
          intro j u v hj hu hv
          rcases Nat.lt_or_ge j k with h' | h'
          · exact HA.out j u v h' hu hv
          · obtain rfl : j = k := by omega
            have e1 := HX.out
            have e2 := HY.out
            rw [hu] at e1
            rw [hv] at e2
            cases e1; cases e2
            exact HTT.out
      · obtain rfl : k = n := by omega
        have HRT := Lib.hid (HT.out HA.out)
        go_wp2
        go_ret
        exact ⟨ret_bool HRT.out.symm, HB.out⟩
  · have HS : Hid (same es fs = false) := Lib.hid (by
      rw [← Bool.not_eq_true, same_iff]
      rintro ⟨h1, _⟩
      exact hnn (by rw [hn, hn2, h1]))
    have hq : ((n : Int) != (n2 : Int)) = true := by rw [bne_iff_ne]; omega
    clear hn hn2 hnn
    go_enter Try.func30, Try.ntmps30
    go_wp2
    go_ret
    exact ⟨ret_bool HS.out.symm, Below.refl _ _⟩
theorem same_c (A : Option Addr) (n c : Nat) (es : List E) (A2 : Option Addr) (n2 c2 : Nat) (fs : List E) (w : World) (h : So w A n c es) (h2 : So w A2 n2 c2 fs) : Calls Try.prog 13 #[.slice A n c, .slice A2 n2 c2] w fun e w' => e = .returned (.bool (same es fs)) ∧ Below w.heap.size w w' := by
  have HE := Lib.hid (equal_c A n c es h.1 (by have := h.2.2.1; omega) A2 n2 c2 fs h2.1 w.heap.size w h.2.2.2.2 h2.2.2.2.2 (Nat.le_refl _))
  generalize same es fs = r at HE ⊢
  clear h h2
  go_enter Try.func13, Try.ntmps13
  go_wp2_with fail
  refine HE.out.mono ?_
  rintro e w2 ⟨rfl, hb⟩
  have HB := Lib.hid hb; clear hb
  go_wp2
  go_ret
  exact ⟨rfl, HB.out⟩
end Go.Proofs.Ytjcpdhekilkhgaa.Bkw
