/- What Append of package disk answers (as it landed). -/
import Derived.Test.YtgcmejhgfdipkaaDkC
namespace Go.Proofs.Ytgcmejhgfdipkaa.Dkw
open Go.RowKit
open Dk

theorem app_off (d : D) (bs : List UInt8) (h : d.off = true) : appD d bs = d ∧ appE d bs = 82 := by
  constructor
  · unfold appD; rw [if_pos h]
  · unfold appE; rw [if_pos h]
theorem app_full (d : D) (bs : List UInt8) (h : d.off = false) (h1 : 0 < bs.length) (h2 : d.room - d.data.length < bs.length) : appD d bs = d ∧ appE d bs = 81 := by
  have h0 : ¬ d.off = true := by rw [h]; decide
  constructor
  · unfold appD; rw [if_neg h0, if_pos ⟨h1, h2⟩]
  · unfold appE; rw [if_neg h0, if_pos ⟨h1, h2⟩]
theorem app_cut (d : D) (bs : List UInt8) (h : d.off = false) (h2 : ¬ (0 < bs.length ∧ d.room - d.data.length < bs.length)) (h3 : 0 ≤ d.fuse) (h4 : d.fuse < bs.length) : appD d bs = ⟨d.data ++ bs.take d.fuse.toNat, d.safe, d.room, 0, true⟩ ∧ appE d bs = 82 := by
  have h0 : ¬ d.off = true := by rw [h]; decide
  constructor
  · unfold appD; rw [if_neg h0, if_neg h2, if_pos ⟨h3, h4⟩]
  · unfold appE; rw [if_neg h0, if_neg h2, if_pos ⟨h3, h4⟩]
theorem app_all (d : D) (bs : List UInt8) (h : d.off = false) (h2 : ¬ (0 < bs.length ∧ d.room - d.data.length < bs.length)) (h3 : ¬ (0 ≤ d.fuse ∧ d.fuse < bs.length)) : appD d bs = ⟨d.data ++ bs, d.safe, d.room, if 0 ≤ d.fuse then d.fuse - bs.length else d.fuse, false⟩ ∧ appE d bs = 0 := by
  have h0 : ¬ d.off = true := by rw [h]; decide
  constructor
  · unfold appD; rw [if_neg h0, if_neg h2, if_neg h3, h]
  · unfold appE; rw [if_neg h0, if_neg h2, if_neg h3]
set_option maxHeartbeats 2000000 in
theorem append_c (p : Value) (d : D) (A2 : Option Addr) (n c2 : Nat) (bs : List UInt8) (hn : n = bs.length) (hc : n ≤ c2) (hl : n ≤ big) (F : Nat → Prop) (w : World) (h : Dd w F p d) (hr : Rf w F A2 (bs.map B8)) : Calls Try.prog 11 #[p, .slice A2 n c2] w (RetK w F p (appD d bs) (.int .i64 (appE d bs))) := by
  obtain ⟨g, A, m, c, rfl, hy, ho, hF, hi⟩ := h
  have HY := Lib.hid hy; have HO := Lib.hid ho; have HF := Lib.hid hF; have HI := Lib.hid hi; have HIA := Lib.hid (fits_app d bs hi); have HR := Lib.hid hr
  have HL : Hid (m = d.data.length) := Lib.hid ho.1
  have HN := Lib.hid hn
  have h3 : m ≤ 60000 := by rw [ho.1]; exact hi.1.2.2.1
  have h4 := hi.1.2.2.2.1
  have h5 := hi.1.2.2.2.2.1
  have h6 := hi.1.2.2.2.2.2
  have hl2 : n ≤ 140737488355328 := hl
  clear hy ho hF hi hr hl hn
  have z0 := HY.out.c0; have z2 := HY.out.c2; have z3 := HY.out.c3; have z4 := HY.out.c4
  cases hoff : d.off with
  | true =>
    obtain ⟨e1, e2⟩ := app_off d bs hoff
    rw [e1, e2]
    rw [hoff] at z4
    go_enter Try.func11, Try.ntmps11
    go_wp2
    go_ret
    exact ret_same _ HF.out (Kp.refl _ _) HY.out HO.out HI.out
  | false =>
    rw [hoff] at z4
    obtain ⟨rm, hrm⟩ : ∃ rm, rm = max 0 (d.room - (m : Int)) := ⟨_, rfl⟩
    have hmax : ∀ ts t W, (Builtin.max_ ts t #[.int .i64 0, .int .i64 (d.room - (m : Int))]).run Try.prog W = .ok (.int .i64 rm) W := by
      intro ts t W
      rw [run_max_int2, hrm]
      congr 2
      split <;> omega
    by_cases hfull : rm < (n : Int)
    · obtain ⟨e1, e2⟩ := app_full d bs hoff (by rw [← HN.out]; omega) (by rw [← HL.out, ← HN.out]; omega)
      rw [e1, e2]
      clear hrm
      go_enter Try.func11, Try.ntmps11
      go_wp2_with fail
      go_region
      have hb := (Below.refl w.heap.size w).drew
      generalize w.drew = w1 at hb ⊢
      have HK1 := Lib.hid (Kp.of_below (F := F) hb); have HY1 := Lib.hid (HY.out.all hb); have HO1 := Lib.hid (HO.out.below hb (Nat.le_refl _))
      clear hb z0 z2 z3 z4 hmax
      go_wp2
      go_ret
      exact ret_same _ HF.out HK1.out HY1.out HO1.out HI.out
    · have hroom : (n : Int) ≤ rm := by omega
      have HNF : Hid (¬ (0 < bs.length ∧ d.room - d.data.length < bs.length)) := Lib.hid (by rw [← HL.out, ← HN.out]; omega)
      have hn6 : n ≤ 60000 := by omega
      clear hfull hrm
      by_cases hnf : d.fuse = -1
      · obtain ⟨e1, e2⟩ := app_all d bs hoff HNF.out (by omega)
        rw [if_neg (by omega)] at e1
        rw [e2]
        have HE := Lib.hid e1; clear e1 e2
        go_enter Try.func11, Try.ntmps11
        go_wp2_with fail
        go_region
        have hb := (Below.refl w.heap.size w).drew
        generalize w.drew = w1 at hb ⊢
        have HK1 := Lib.hid (Kp.of_below (F := F) hb); have HY1 := Lib.hid (HY.out.all hb); have HO1 := Lib.hid (HO.out.below hb (Nat.le_refl _))
        have HR1 := Lib.hid (show Rd w1 w.heap.size A2 (bs.map B8) from (HR.out.rd).below hb)
        clear hb z0 z2 z3 z4 hmax
        have z0 := HY1.out.c0; have z3 := HY1.out.c3
        rw [hnf] at z3
        have hsl := run_head A2 n c2 n n .i64 rfl hc
        go_wp2_with fail
        have HK2 := Lib.hid (show Kp F w w1.drew from ⟨HK1.out.os, HK1.out.tape, HK1.out.output, HK1.out.size, HK1.out.block⟩)
        have HY2 := Lib.hid (show Dy w1.drew g A m c d.safe d.room d.fuse d.off from HY1.out)
        have HO2 := Lib.hid (show Own w1.drew 0 A m c d.data from HO1.out)
        have HR2 := Lib.hid (show Rd w1.drew w.heap.size A2 (bs.map B8) from HR1.out)
        go_region_law (refine step_appK rfl (.tmp 49) (.tmp 52) rfl A m c d.data rfl HO2.out w.heap.size A2 n c2 bs rfl HN.out HR2.out (by unfold big; omega) ?_; intro A3 c3 w3 ho3 hg3 ha3; have HAF := Lib.hid (after_app (n' := m + n) (c' := c3) HF.out HK2.out HY2.out HO2.out hg3 ha3); have HO3 := Lib.hid ho3; have x0 := HAF.out.1.c0; have f0 := frozen_of_row w3 g 0 _ _ HAF.out.1; clear ho3 hg3 ha3)
        all_goals
          clear x0 f0 z0 z3 HK2 HY2 HO2 HR2 HK1 HY1 HO1 HR1
          go_wp2
          go_ret
          rw [HE.out] at HIA ⊢
          refine RetK.trans HAF.out.2 (ret_same _ (fun _ => Iff.rfl) ((Kp.refl _ _).setCell (Or.inl rfl) _) ?_ (own_put HAF.out.1 HO3.out _) HIA.out)
          rw [← hoff]
          exact HAF.out.1.setA A3 (m + n) c3
      · have h7 : 0 ≤ d.fuse := by omega
        have hne : (d.fuse == -1) = false := by rw [beq_eq_false_iff_ne]; exact hnf
        by_cases hlt : d.fuse < (n : Int)
        · obtain ⟨e1, e2⟩ := app_cut d bs hoff HNF.out h7 (by rw [← HN.out]; exact hlt)
          rw [e2]
          have HE := Lib.hid e1; clear e1 e2
          obtain ⟨q, hq⟩ : ∃ q : Nat, d.fuse = (q : Int) := ⟨d.fuse.toNat, by omega⟩
          have hqn : q < n := by omega
          have HQ : Hid (d.fuse.toNat = q) := Lib.hid (by omega)
          go_enter Try.func11, Try.ntmps11
          go_wp2_with fail
          go_region
          have hb := (Below.refl w.heap.size w).drew
          generalize w.drew = w1 at hb ⊢
          have HK1 := Lib.hid (Kp.of_below (F := F) hb); have HY1 := Lib.hid (HY.out.all hb); have HO1 := Lib.hid (HO.out.below hb (Nat.le_refl _)); have HR1 := Lib.hid (HR.out.all hb)
          clear hb z0 z2 z3 z4 hmax
          have z0 := HY1.out.c0; have z3 := HY1.out.c3
          have f3 := frozen_of_row w1 g 3 _ _ HY1.out
          have hsl := run_head A2 n c2 q q .i64 rfl (by omega)
          rw [hq] at z3 hne
          go_wp2_with fail
          have HK2 := Lib.hid (HK1.out.setCell (p := ⟨g, 3, none⟩) (fs_own HF.out) (.int .i64 0))
          have HY2 := Lib.hid (HY1.out.setF 0)
          have HO2 := Lib.hid (own_put (i := 3) HY1.out HO1.out (.int .i64 0))
          have HR2 := Lib.hid (Rf.rd (HR1.out.keep ((Kp.refl F w1).setCell (p := ⟨g, 3, none⟩) (fs_own HF.out) (.int .i64 0)) (fun _ h => Or.inl h)))
          generalize w1.setCell ⟨g, 3, none⟩ (.int .i64 0) = w2 at HK2 HY2 HO2 HR2 ⊢
          clear z0 z3 f3 HK1 HY1 HO1 HR1
          have z0 := HY2.out.c0
          have HK3 := Lib.hid (show Kp F w w2.drew from ⟨HK2.out.os, HK2.out.tape, HK2.out.output, HK2.out.size, HK2.out.block⟩)
          have HY3 := Lib.hid (show Dy w2.drew g A m c d.safe d.room 0 d.off from HY2.out)
          have HO3 := Lib.hid (show Own w2.drew 0 A m c d.data from HO2.out)
          have HR3 := Lib.hid (show Rd w2.drew w2.heap.size A2 ((bs.take q).map B8) from by rw [List.map_take]; exact HR2.out.take q)
          have HTN : Hid (q = (bs.take q).length) := Lib.hid (by rw [List.length_take, ← HN.out]; omega)
          go_region_law (refine step_appK rfl (.tmp 49) (.tmp 52) rfl A m c d.data rfl HO3.out w2.heap.size A2 q c2 (bs.take q) rfl HTN.out HR3.out (by unfold big; omega) ?_; intro A3 c3 w3 ho3 hg3 ha3; have HAF := Lib.hid (after_app (n' := m + q) (c' := c3) HF.out HK3.out HY3.out HO3.out hg3 ha3); have HO4 := Lib.hid ho3; have x0 := HAF.out.1.c0; have f0 := frozen_of_row w3 g 0 _ _ HAF.out.1; clear ho3 hg3 ha3)
          all_goals
            have HY4 := Lib.hid (HAF.out.1.setA A3 (m + q) c3)
            have HO5 := Lib.hid (own_put (i := 0) HAF.out.1 HO4.out (.slice A3 (m + q) c3))
            have x4 := HY4.out.c4
            have f4 := frozen_of_row _ g 4 _ _ HY4.out
            rw [hoff] at x4
            clear x0 f0 z0 HK3 HY3 HO3 HR3 HK2 HY2 HO2 HR2
            go_wp2
            go_ret
            rw [HE.out, HQ.out] at HIA ⊢
            refine RetK.trans HAF.out.2 (ret_same _ (fun _ => Iff.rfl) (((Kp.refl _ _).setCell (Or.inl rfl) _).setCell (Or.inl rfl) _) (HY4.out.setO true) (own_put HY4.out HO5.out _) HIA.out)
        · obtain ⟨e1, e2⟩ := app_all d bs hoff HNF.out (by rw [← HN.out]; omega)
          rw [if_pos h7, ← HN.out] at e1
          rw [e2]
          have HE := Lib.hid e1; clear e1 e2
          have hnq : (n : Int) ≤ d.fuse := by omega
          go_enter Try.func11, Try.ntmps11
          go_wp2_with fail
          go_region
          have hb := (Below.refl w.heap.size w).drew
          generalize w.drew = w1 at hb ⊢
          have HK1 := Lib.hid (Kp.of_below (F := F) hb); have HY1 := Lib.hid (HY.out.all hb); have HO1 := Lib.hid (HO.out.below hb (Nat.le_refl _)); have HR1 := Lib.hid (HR.out.all hb)
          clear hb z0 z2 z3 z4 hmax
          have z0 := HY1.out.c0; have z3 := HY1.out.c3
          have f3 := frozen_of_row w1 g 3 _ _ HY1.out
          have hsl := run_head A2 n c2 n n .i64 rfl hc
          go_wp2_with fail
          have HK2 := Lib.hid (HK1.out.setCell (p := ⟨g, 3, none⟩) (fs_own HF.out) (.int .i64 (d.fuse - n)))
          have HY2 := Lib.hid (HY1.out.setF (d.fuse - n))
          have HO2 := Lib.hid (own_put (i := 3) HY1.out HO1.out (.int .i64 (d.fuse - n)))
          have HR2 := Lib.hid (Rf.rd (HR1.out.keep ((Kp.refl F w1).setCell (p := ⟨g, 3, none⟩) (fs_own HF.out) (.int .i64 (d.fuse - n))) (fun _ h => Or.inl h)))
          generalize w1.setCell ⟨g, 3, none⟩ (.int .i64 (d.fuse - n)) = w2 at HK2 HY2 HO2 HR2 ⊢
          clear z0 z3 f3 HK1 HY1 HO1 HR1
          have z0 := HY2.out.c0
          have HK3 := Lib.hid (show Kp F w w2.drew from ⟨HK2.out.os, HK2.out.tape, HK2.out.output, HK2.out.size, HK2.out.block⟩)
          have HY3 := Lib.hid (show Dy w2.drew g A m c d.safe d.room (d.fuse - n) d.off from HY2.out)
          have HO3 := Lib.hid (show Own w2.drew 0 A m c d.data from HO2.out)
          have HR3 := Lib.hid (show Rd w2.drew w2.heap.size A2 (bs.map B8) from HR2.out)
          go_region_law (refine step_appK rfl (.tmp 49) (.tmp 52) rfl A m c d.data rfl HO3.out w2.heap.size A2 n c2 bs rfl HN.out HR3.out (by unfold big; omega) ?_; intro A3 c3 w3 ho3 hg3 ha3; have HAF := Lib.hid (after_app (n' := m + n) (c' := c3) HF.out HK3.out HY3.out HO3.out hg3 ha3); have HO4 := Lib.hid ho3; have x0 := HAF.out.1.c0; have f0 := frozen_of_row w3 g 0 _ _ HAF.out.1; clear ho3 hg3 ha3)
          all_goals
            clear x0 f0 z0 HK3 HY3 HO3 HR3 HK2 HY2 HO2 HR2
            go_wp2
            go_ret
            rw [HE.out] at HIA ⊢
            refine RetK.trans HAF.out.2 (ret_same _ (fun _ => Iff.rfl) ((Kp.refl _ _).setCell (Or.inl rfl) _) ?_ (own_put HAF.out.1 HO4.out _) HIA.out)
            rw [← hoff]
            exact HAF.out.1.setA A3 (m + n) c3
end Go.Proofs.Ytgcmejhgfdipkaa.Dkw
