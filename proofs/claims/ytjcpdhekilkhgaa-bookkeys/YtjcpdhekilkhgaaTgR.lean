/- What the document's functions of layer 6 answer: contracts by walks. -/
import Derived.Test.YtjcpdhekilkhgaaTgW
namespace Go.Proofs.Ytjcpdhekilkhgaa.Tgw
open Go.RowKit
open Tg

theorem right_r (n d : Int) (w : World) : Calls Try.prog 29 #[tv n d] w fun e w' => e = .returned (.bool (right n d)) ∧ Below w.heap.size w w' := by
  unfold tv
  by_cases h0 : n = 0
  · subst h0
    go_enter Try.func29, Try.ntmps29
    go_wp2
    go_ret
    refine ⟨ret_bool ?_, (Below.refl _ _).alloc (Nat.le_refl _) _⟩
    unfold right
    rw [Bool.eq_iff_iff, beq_iff_eq, decide_eq_true_iff]
    omega
  · have hq : (n == 0) = false := by rw [beq_eq_false_iff_ne]; exact h0
    have HQ := Lib.hid h0; clear h0
    go_enter Try.func29, Try.ntmps29
    go_wp2
    all_goals go_ret
    all_goals refine ⟨ret_bool ?_, (Below.refl _ _).alloc (Nat.le_refl _) _⟩
    all_goals
      have h0 := HQ.out
      unfold right
      rw [Bool.eq_iff_iff]
      simp only [Bool.and_eq_true, decide_eq_true_eq, Bool.false_eq_true, false_iff]
      omega
theorem less_r (a b : Int × Int) (w : World) : Calls Try.prog 36 #[tv a.1 a.2, tv b.1 b.2] w fun e w' => e = .returned (.bool (less a b)) ∧ Below w.heap.size w w' := by
  obtain ⟨n, d⟩ := a
  obtain ⟨m, c⟩ := b
  show Calls Try.prog 36 #[tv n d, tv m c] w _
  unfold tv
  by_cases h0 : n = m
  · subst h0
    go_enter Try.func36, Try.ntmps36
    go_wp2
    go_ret
    refine ⟨ret_bool ?_, ((Below.refl _ _).alloc (Nat.le_refl _) _).alloc (by simp) _⟩
    unfold less
    exact decide_eq_decide.2 (by show d < c ↔ n < n ∨ n = n ∧ d < c; omega)
  · have hq : (n == m) = false := by rw [beq_eq_false_iff_ne]; exact h0
    have HQ := Lib.hid h0; clear h0
    go_enter Try.func36, Try.ntmps36
    go_wp2
    go_ret
    refine ⟨ret_bool ?_, ((Below.refl _ _).alloc (Nat.le_refl _) _).alloc (by simp) _⟩
    have h0 := HQ.out
    unfold less
    exact decide_eq_decide.2 (by show n < m ↔ n < m ∨ n = m ∧ d < c; omega)
set_option maxHeartbeats 1000000 in
theorem max_r (A : Option Addr) (n c : Nat) (ts : List (Int × Int)) (hn : n = ts.length) (hl : n ≤ 140737488355328) (B : Nat) (w : World) (hr : Rt w B A ts) (hB : B ≤ w.heap.size) :
    Calls Try.prog 35 #[.slice A n c] w fun e w' => e = .returned (tv (maxT ts).1 (maxT ts).2) ∧ Below w.heap.size w w' := by
  have HN := Lib.hid hn; clear hn
  have HR := Lib.hid hr; clear hr
  rcases Nat.eq_zero_or_pos n with h0 | h0
  · subst h0
    have hv : ts = [] := List.eq_nil_of_length_eq_zero HN.out.symm
    subst hv
    go_enter Try.func35, Try.ntmps35
    go_wp2
    refine bodyPost_ret (results_tag (g := w.heap.size) (a := 0) (d := 0) rfl rfl (hat _ _ _ rfl)) rfl ?_
    exact ⟨rfl, bal (Below.refl _ _) (Nat.le_refl _) _⟩
  · obtain ⟨b, o, rfl, hbB, hcell⟩ := HR.out (by rw [← HN.out]; omega)
    have hkl : 0 < ts.length := by rw [← HN.out]; exact h0
    have hz : ts[0]? = some ts[0] := List.getElem?_eq_getElem hkl
    have hc0 := hcell 0 ts[0] hz
    generalize ts[0] = v at hz hc0
    obtain ⟨fa, fd⟩ := v
    have hca : ∀ o1, (w.alloc o1).cell? ⟨b, o, none⟩ = some (.int .i64 fa) := fun o1 => by have := hc0.1; simp at this; exact ((bal (Below.refl w.heap.size w) (Nat.le_refl _) o1).cell (by show b < _; omega)).trans this
    have hcd : ∀ o1, (w.alloc o1).cell? ⟨b, o + 1, none⟩ = some (.int .i64 fd) := fun o1 => by have := hc0.2; simp at this; exact ((bal (Below.refl w.heap.size w) (Nat.le_refl _) o1).cell (by show b < _; omega)).trans this
    have hq : ((n : Int) == 0) = false := by rw [beq_eq_false_iff_ne]; omega
    have HF := Lib.hid (maxT_fold ts _ hz)
    clear hz hc0 hcell hkl
    go_enter Try.func35, Try.ntmps35
    go_wp2
    go_loopw [15] (fun i wr => ∃ k : Nat, i = .int .i64 k ∧ k ≤ n ∧ Tx wr w.heap.size 0 0 ∧ Tx wr (w.heap.size + 1) ((ts.take k).foldl maxStep (fa, fd)).1 ((ts.take k).foldl maxStep (fa, fd)).2 ∧ Below w.heap.size w wr) (fun i _ => n - (intOf i).toNat)
    case atStart => exact ⟨0, rfl, by omega, hbe (hat _ _ _ rfl), hat _ _ _ (by simp), bal (bal (Below.refl _ _) (Nat.le_refl _) _) (Nat.le_refl _) _⟩
    case round =>
      obtain ⟨k, rfl, hk, hv0, hv1, hb⟩ := hrel
      have HB := Lib.hid hb; have H0 := Lib.hid hv0; have H1 := Lib.hid hv1
      have hsz := hv1.lt
      clear hb hv0 hv1 hca hcd
      by_cases h : k < n
      · obtain ⟨b', o', e', hbB', hcell⟩ := HR.out (by rw [← HN.out]; omega)
        injection e' with e'
        injection e' with e1 e2
        subst e1; subst e2
        have hkl : k < ts.length := by rw [← HN.out]; exact h
        have hz : ts[k]? = some ts[k] := List.getElem?_eq_getElem hkl
        have hc0 := hcell k ts[k] hz
        generalize ts[k] = v at hz hc0
        obtain ⟨va, vd⟩ := v
        have hca : wr.cell? ⟨b, o + k * 2, none⟩ = some (.int .i64 va) := (HB.out.cell (by show b < _; omega)).trans hc0.1
        have hcd : wr.cell? ⟨b, o + k * 2 + 1, none⟩ = some (.int .i64 vd) := (HB.out.cell (by show b < _; omega)).trans hc0.2
        have HT : Hid ((ts.take (k + 1)).foldl maxStep (fa, fd) = maxStep ((ts.take k).foldl maxStep (fa, fd)) (va, vd)) := Lib.hid (fold_take ts _ k _ hz)
        clear hz hc0 hcell hkl
        generalize (ts.take k).foldl maxStep (fa, fd) = p at H1 HT
        obtain ⟨pa, pd⟩ := p
        have H1 : Hid (Tx wr (w.heap.size + 1) pa pd) := H1
        have z0 := H1.out.c0
        have z1 := H1.out.c1
        go_wp2_with fail
        have V0 := Lib.hid (show Tx (wr.alloc (.cells #[.int .i64 va, .int .i64 vd] 23)) w.heap.size 0 0 from hbe H0.out)
        have V1 := Lib.hid (show Tx (wr.alloc (.cells #[.int .i64 va, .int .i64 vd] 23)) (w.heap.size + 1) pa pd from hbe H1.out)
        have V2 := Lib.hid (show Tx (wr.alloc (.cells #[.int .i64 va, .int .i64 vd] 23)) wr.heap.size va vd from hat _ _ _ rfl)
        have HB3 := Lib.hid (bal HB.out (Nat.le_refl _) (.cells #[.int .i64 va, .int .i64 vd] 23))
        generalize wr.alloc (.cells #[.int .i64 va, .int .i64 vd] 23) = w3 at V0 V1 V2 HB3 ⊢
        generalize wr.heap.size = gu at V2 hsz ⊢
        clear z0 z1 hca hcd
        refine (less_r (pa, pd) (va, vd) _).mono ?_
        rintro e w4 ⟨rfl, hb4⟩
        have V0 := Lib.hid (V0.out.all hb4)
        have V1 := Lib.hid (V1.out.all hb4)
        have V2 := Lib.hid (V2.out.all hb4)
        have HB4 := Lib.hid (HB3.out.trans (hb4.mono HB3.out.size)); clear hb4
        have HS : Hid (maxStep (pa, pd) (va, vd) = if less (pa, pd) (va, vd) then (va, vd) else (pa, pd)) := Lib.hid rfl
        cases hx : less (pa, pd) (va, vd) with
        | false =>
          rw [hx] at HS
          clear hx
          go_wp2
          refine ⟨⟨k + 1, by go_num, by omega, V0.out, ?_, HB4.out⟩, by simp [intOf]; omega⟩
          rw [HT.out, HS.out]
          exact V1.out
        | true =>
          rw [hx] at HS
          clear hx
          have c0 := V2.out.c0; have c1 := V2.out.c1
          have z0 := V1.out.c0
          have z1 := V1.out.c1
          have z2 := frozen_of_row w4 (w.heap.size + 1) 0 _ _ V1.out
          have z3 := frozen_of_row w4 (w.heap.size + 1) 1 _ _ V1.out
          go_wp2
          refine ⟨⟨k + 1, by go_num, by omega, (V0.out.other (by simp) _).other (by simp) _, ?_, (HB4.out.setCell (by simp) _).setCell (by simp) _⟩, by simp [intOf]; omega⟩
          rw [HT.out, HS.out]
          exact V1.out.put va vd
      · obtain rfl : k = n := by omega
        have hT : Tx wr (w.heap.size + 1) (maxT ts).1 (maxT ts).2 := by
          have := H1.out
          rwa [List.take_of_length_le (by rw [← HN.out]; omega), HF.out] at this
        obtain ⟨pa, pd, hp⟩ : ∃ pa pd, maxT ts = (pa, pd) := ⟨_, _, rfl⟩
        have HP := Lib.hid hp
        rw [hp] at hT
        clear hp
        have hT : Tx wr (w.heap.size + 1) pa pd := hT
        have c0 := hT.c0; have c1 := hT.c1
        have z0 := H0.out.c0
        have z1 := H0.out.c1
        have z2 := frozen_of_row wr w.heap.size 0 _ _ H0.out
        have z3 := frozen_of_row wr w.heap.size 1 _ _ H0.out
        clear hT
        go_wp2
        refine bodyPost_ret (results_tag (g := w.heap.size) rfl rfl (H0.out.put pa pd)) rfl ?_
        exact ⟨by rw [HP.out], (HB.out.setCell (Nat.le_refl _) _).setCell (Nat.le_refl _) _⟩
end Go.Proofs.Ytjcpdhekilkhgaa.Tgw
