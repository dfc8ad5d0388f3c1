/- What Top of package view answers. -/
import Derived.Test.YtofjdfnoibfdfaaVwD
namespace Go.Proofs.Ytofjdfnoibfdfaa
open Go.RowKit
open Chg Vw

theorem top0_all : ∀ a d : Fin 64, topStep (0, 0) (a.1, d.1) = (a.1, d.1) := by decide +kernel
theorem top0 (v : Nat × Nat) (h : v.1 < 64 ∧ v.2 < 64) : topStep (0, 0) v = v := top0_all ⟨v.1, h.1⟩ ⟨v.2, h.2⟩
theorem top_fold (l : List (Nat × Nat)) (h64 : ∀ v ∈ l, v.1 < 64 ∧ v.2 < 64) : l.foldl topStep (0, 0) = top l := by
  cases l with
  | nil => rfl
  | cons v l =>
    rw [List.foldl_cons, top0 v (h64 v (by simp))]
    rfl
theorem fold_lt (l : List (Nat × Nat)) (h64 : ∀ v ∈ l, v.1 < 64 ∧ v.2 < 64) : (l.foldl topStep (0, 0)).1 < 64 ∧ (l.foldl topStep (0, 0)).2 < 64 := by
  rw [top_fold l h64]
  exact top_lt l h64
theorem fold_take (l : List (Nat × Nat)) (k : Nat) (v : Nat × Nat) (h : l[k]? = some v) : (l.take (k + 1)).foldl topStep (0, 0) = topStep ((l.take k).foldl topStep (0, 0)) v := by
  rw [List.take_add_one, h, List.foldl_append]
  rfl
set_option maxHeartbeats 1000000 in
theorem top_c (A : Option Addr) (n c : Nat) (vs : List (Nat × Nat)) (hn : n = vs.length) (hl : n ≤ 140737488355328) (h64 : ∀ v ∈ vs, v.1 < 64 ∧ v.2 < 64) (B : Nat) (w : World) (hr : Rv w B A vs) (hB : B ≤ w.heap.size) :
    Calls Try.prog 11 #[.slice A n c] w fun e w' => e = .returned (vw (top vs).1 (top vs).2) ∧ Below w.heap.size w w' := by
  have HN := Lib.hid hn; clear hn
  have HR := Lib.hid hr; clear hr
  have H64 := Lib.hid h64; clear h64
  go_enter Try.func11, Try.ntmps11
  go_wp2
  go_loopw [8] (fun i wr => ∃ k : Nat, i = .int .i64 k ∧ k ≤ n ∧ Vx wr w.heap.size 0 0 ∧ Vx wr (w.heap.size + 1) ((vs.take k).foldl topStep (0, 0)).1 ((vs.take k).foldl topStep (0, 0)).2 ∧ Below w.heap.size w wr) (fun i _ => n - (intOf i).toNat)
  case atStart => exact ⟨0, rfl, by omega, hbe (hat _ _ _ rfl), hat _ _ _ (by simp), bal (bal (Below.refl _ _) (Nat.le_refl _) _) (Nat.le_refl _) _⟩
  case round =>
    obtain ⟨k, rfl, hk, hv0, hv1, hb⟩ := hrel
    have HB := Lib.hid hb; have H0 := Lib.hid hv0; have H1 := Lib.hid hv1
    have hsz := hv1.lt
    clear hb hv0 hv1
    by_cases h : k < n
    · obtain ⟨b, o, rfl, hbB, hcell⟩ := HR.out (by rw [← HN.out]; omega)
      have hkl : k < vs.length := by rw [← HN.out]; exact h
      have hz : vs[k]? = some vs[k] := List.getElem?_eq_getElem hkl
      have hc0 := hcell k vs[k] hz
      have hv64 := H64.out vs[k] (List.getElem_mem hkl)
      generalize vs[k] = v at hz hc0 hv64
      obtain ⟨va, vd⟩ := v
      have hca : wr.cell? ⟨b, o + k * 2, none⟩ = some (.int .i64 (va : Int)) := (HB.out.cell (by show b < _; omega)).trans hc0.1
      have hcd : wr.cell? ⟨b, o + k * 2 + 1, none⟩ = some (.int .i64 (vd : Int)) := (HB.out.cell (by show b < _; omega)).trans hc0.2
      have hva : va < 64 := hv64.1
      have hvd : vd < 64 := hv64.2
      have HT : Hid ((vs.take (k + 1)).foldl topStep (0, 0) = topStep ((vs.take k).foldl topStep (0, 0)) (va, vd)) := Lib.hid (fold_take vs k _ hz)
      clear hz hc0 hcell hkl hv64
      have hT64 := fold_lt (vs.take k) (fun v hv => H64.out v (List.mem_of_mem_take hv))
      generalize (vs.take k).foldl topStep (0, 0) = p at H1 HT hT64
      obtain ⟨pa, pd⟩ := p
      have H1 : Hid (Vx wr (w.heap.size + 1) pa pd) := H1
      have z0 := H1.out.c0
      have z1 := H1.out.c1
      go_wp2_with fail
      have V0 := Lib.hid (show Vx (wr.alloc (.cells #[.int .i64 (va : Int), .int .i64 (vd : Int)] 25)) w.heap.size 0 0 from hbe H0.out)
      have V1 := Lib.hid (show Vx (wr.alloc (.cells #[.int .i64 (va : Int), .int .i64 (vd : Int)] 25)) (w.heap.size + 1) pa pd from hbe H1.out)
      have V2 := Lib.hid (show Vx (wr.alloc (.cells #[.int .i64 (va : Int), .int .i64 (vd : Int)] 25)) wr.heap.size va vd from hat _ _ _ rfl)
      have HB3 := Lib.hid (bal HB.out (Nat.le_refl _) (.cells #[.int .i64 (va : Int), .int .i64 (vd : Int)] 25))
      generalize wr.alloc (.cells #[.int .i64 (va : Int), .int .i64 (vd : Int)] 25) = w3 at V0 V1 V2 HB3 ⊢
      generalize wr.heap.size = gu at V2 hsz ⊢
      clear z0 z1 hca hcd
      refine (vless_c (pa, pd) (va, vd) hT64 ⟨hva, hvd⟩ _).mono ?_
      rintro e w4 ⟨rfl, hb4⟩
      have V0 := Lib.hid (V0.out.below hb4 V0.out.lt)
      have V1 := Lib.hid (V1.out.below hb4 V1.out.lt)
      have V2 := Lib.hid (V2.out.below hb4 V2.out.lt)
      have HB4 := Lib.hid (HB3.out.trans (hb4.mono HB3.out.size)); clear hb4
      have HS : Hid (topStep (pa, pd) (va, vd) = if less (pa, pd) (va, vd) then (va, vd) else (pa, pd)) := Lib.hid rfl
      cases hx : less (pa, pd) (va, vd) with
      | false =>
        rw [hx] at HS
        clear hx
        go_wp2
        refine ⟨⟨k + 1, by go_num, by omega, V0.out, ?_, HB4.out⟩, by simp [intOf]; omega⟩
        rw [HT.out, HS.out]
        exact V1.out
      | true =>
        rw [hx] at HS
        clear hx
        have c0 := V2.out.c0; have c1 := V2.out.c1
        have z0 := V1.out.c0
        have z1 := V1.out.c1
        have z2 := frozen_of_row w4 (w.heap.size + 1) 0 _ _ V1.out
        have z3 := frozen_of_row w4 (w.heap.size + 1) 1 _ _ V1.out
        go_wp2
        refine ⟨⟨k + 1, by go_num, by omega, (V0.out.other (by simp) _).other (by simp) _, ?_, (HB4.out.setCell (by simp) _).setCell (by simp) _⟩, by simp [intOf]; omega⟩
        rw [HT.out, HS.out]
        exact V1.out.put va vd
    · obtain rfl : k = n := by omega
      have hT : Vx wr (w.heap.size + 1) (top vs).1 (top vs).2 := by
        have := H1.out
        rwa [List.take_of_length_le (by rw [← HN.out]; omega), top_fold vs H64.out] at this
      obtain ⟨pa, pd, hp⟩ : ∃ pa pd, top vs = (pa, pd) := ⟨_, _, rfl⟩
      have HP := Lib.hid hp
      rw [hp] at hT
      clear hp
      have hT : Vx wr (w.heap.size + 1) pa pd := hT
      have c0 := hT.c0; have c1 := hT.c1
      have z0 := H0.out.c0
      have z1 := H0.out.c1
      have z2 := frozen_of_row wr w.heap.size 0 _ _ H0.out
      have z3 := frozen_of_row wr w.heap.size 1 _ _ H0.out
      clear hT
      go_wp2
      refine bodyPost_ret (results_view (g := w.heap.size) rfl rfl (H0.out.put pa pd)) rfl ?_
      exact ⟨by rw [HP.out], (HB.out.setCell (Nat.le_refl _) _).setCell (Nat.le_refl _) _⟩
end Go.Proofs.Ytofjdfnoibfdfaa
