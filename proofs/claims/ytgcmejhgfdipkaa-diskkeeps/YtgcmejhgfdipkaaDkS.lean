/- What the document's Crash and Append of layer 8 answer: contracts by walks. -/
import Derived.Test.YtgcmejhgfdipkaaDkR
namespace Go.Proofs.Ytgcmejhgfdipkaa.Dkw
open Go.RowKit
open Dk

set_option maxHeartbeats 1000000 in
theorem crash_r (v : Value) (d : D) (keep : Int) (F : Nat → Prop) (w : World) (hF : ∀ k, F k → k < w.heap.size) (h : Ds w F v d) (hi : Iv d) (hkeep : keep ≤ 9223372036854775807) : Calls Try.prog 17 #[v, .int .i64 keep] w (RetD w F (crashD d keep)) := by
  obtain ⟨A, m, c, rfl, hn, hc, hr⟩ := h
  have HN := Lib.hid hn; have HC := Lib.hid hc; have HR := Lib.hid hr; have HF := Lib.hid hF
  have hm6 : m ≤ 60000 := by rw [hn]; exact hi.2.2.1
  obtain ⟨s, hs⟩ : ∃ s : Nat, d.safe = (s : Int) := ⟨d.safe.toNat, by have := hi.1; omega⟩
  have hsm : s ≤ m := by have := hi.2.1; omega
  have HP : Hid (∀ k : Nat, k ≤ m → d.data.take (s + keep.toNat) = d.data.take k → RetD w F (crashD d keep) = RetD w F ⟨d.data.take k, k, d.room, -1, false⟩) := Lib.hid (fun k hk ht => by
    unfold crashD
    rw [hs, Int.toNat_natCast, ht, List.length_take, Nat.min_eq_left (by rw [← HN.out]; exact hk)])
  generalize RetD w F (crashD d keep) = P at HP ⊢
  unfold dv
  rw [hs]
  obtain ⟨A1, hs1, hr1⟩ := run_upto Try.underlying27 size8 A m c s (s : Int) .i64 rfl (by have := HC.out; omega)
  have HS1 := Lib.hid hr1
  have hcap := HC.out
  clear hn hc hr hF hr1
  go_enter Try.func17, Try.ntmps17
  have HRS := Lib.hid (show Rd ((w.alloc (.cells #[.slice A m c, .int .i64 (s : Int), .int .i64 d.room, .int .i64 d.fuse, .bool d.off] 30)).alloc (.cells #[.slice none 0 0, .int .i64 0, .int .i64 0, .int .i64 0, .bool false] 30)) w.heap.size A1 ((d.data.take s).map B8) from (HS1.out _ _ _ (by rw [List.map_take]; exact (HR.out.rd.take s))).below (bal (bal (Below.refl _ _) (Nat.le_refl _) _) (Nat.le_refl _) _))
  go_wp2_with (at_builtin; refine wp_copy8 rfl (.tmp 7) (.tmp 12) rfl ((w.alloc (.cells #[.slice A m c, .int .i64 (s : Int), .int .i64 d.room, .int .i64 d.fuse, .bool d.off] 30)).alloc (.cells #[.slice none 0 0, .int .i64 0, .int .i64 0, .int .i64 0, .bool false] 30)) (by rw [World.size_alloc, World.size_alloc]; rfl) w.heap.size A1 s c (d.data.take s) rfl (by rw [List.length_take, ← HN.out]; omega) HRS.out (by simp; omega) (by unfold big; omega) ?_; intro A2 c2 w2 how hb2; have hx := (show Dx ((w.alloc (.cells #[.slice A m c, .int .i64 (s : Int), .int .i64 d.room, .int .i64 d.fuse, .bool d.off] 30)).alloc (.cells #[.slice none 0 0, .int .i64 0, .int .i64 0, .int .i64 0, .bool false] 30)) w.heap.size A m c s d.room d.fuse d.off from hbe (hat _ _ _ rfl)).all hb2; have x1 := hx.c1)
  have HXX := Lib.hid hx
  have HYY := Lib.hid ((show Dx ((w.alloc (.cells #[.slice A m c, .int .i64 (s : Int), .int .i64 d.room, .int .i64 d.fuse, .bool d.off] 30)).alloc (.cells #[.slice none 0 0, .int .i64 0, .int .i64 0, .int .i64 0, .bool false] 30)) (w.heap.size + 1) none 0 0 0 0 0 false from hat _ _ _ (by simp)).all hb2)
  have HOO := Lib.hid (show Own w2 (w.heap.size + 2) A2 s c2 (d.data.take s) from how.base (by simp))
  have HBB := Lib.hid ((bal (bal (Below.refl w.heap.size w) (Nat.le_refl _) (.cells #[.slice A m c, .int .i64 (s : Int), .int .i64 d.room, .int .i64 d.fuse, .bool d.off] 30)) (Nat.le_refl _) (.cells #[.slice none 0 0, .int .i64 0, .int .i64 0, .int .i64 0, .bool false] 30)).trans (hb2.mono (by simp; omega)))
  have HSZ : Hid (w.heap.size + 2 ≤ w2.heap.size) := Lib.hid (by have := hb2.size; simp at this; omega)
  clear hx x1 how hb2 hs1
  go_loopw [5, 6] (fun x i wr => ∃ (A3 : Option Addr) (c3 k : Nat), x = .slice A3 k c3 ∧ i = .int .i64 k ∧ s ≤ k ∧ k ≤ m ∧ ((k : Int) - s ≤ keep ∨ k = s) ∧ Own wr (w.heap.size + 2) A3 k c3 (d.data.take k) ∧ Dx wr w.heap.size A m c s d.room d.fuse d.off ∧ Dx wr (w.heap.size + 1) none 0 0 0 0 0 false ∧ Below w.heap.size w wr ∧ w.heap.size + 2 ≤ wr.heap.size) (fun _ i _ => m - (intOf i).toNat)
  case atStart => exact ⟨A2, c2, s, rfl, rfl, Nat.le_refl _, hsm, Or.inr rfl, HOO.out, HXX.out, HYY.out, HBB.out, HSZ.out⟩
  case round =>
    obtain ⟨A3, c3, k, rfl, rfl, hsk, hk, hkn, how, hx, hy, hb, hsz⟩ := hrel
    have HO := Lib.hid how; have HX := Lib.hid hx; have HY := Lib.hid hy; have HB := Lib.hid hb
    clear how hx hy hb HOO HXX HYY HBB HSZ
    have x0 := HX.out.c0
    have x1 := HX.out.c1
    by_cases h : k < m ∧ (k : Int) - s < keep
    · have h1 := h.1
      have h2 := h.2
      obtain ⟨b, o, rfl, hbB, _, hcell⟩ := HR.out (by rw [List.length_map, ← HN.out]; omega)
      have hkl : k < d.data.length := by rw [← HN.out]; exact h1
      have hz : d.data[k]? = some d.data[k] := List.getElem?_eq_getElem hkl
      have hcu := hcell k (B8 d.data[k]) (by rw [List.getElem?_map, hz]; rfl)
      have HT : Hid (d.data.take (k + 1) = d.data.take k ++ [d.data[k]]) := Lib.hid (by rw [List.take_add_one, hz]; rfl)
      generalize d.data[k] = u at hcu HT
      have hcw : wr.cell? ⟨b, o + k, none⟩ = some (.int .u8 (u.toNat : Int)) := (HB.out.cell (by show b < _; omega)).trans hcu
      clear hcu hz hkl hcell h
      go_wp2_with (at_builtin; refine wp_app8 rfl (.tmp 31) (.tmp 37) rfl (w.heap.size + 2) A3 k c3 _ rfl (HO.out.alloc _) (wr.heap.size + 1) _ 1 1 [u] rfl rfl (rd_one wr _ u rfl) (by unfold big; omega) (by simp; omega) ?_; intro A4 c4 w4 ho4 hb4)
      have hs4 := hb4.size
      rw [World.size_alloc] at hs4
      refine ⟨⟨A4, c4, k + 1, rfl, by go_num, by omega, by omega, by omega, ?_, ?_, ?_, ?_, by omega⟩, by simp [intOf]; omega⟩
      · rw [HT.out]; exact ho4
      · exact (hb4.block _ (by omega)).trans (hbe HX.out)
      · exact (hb4.block _ (by omega)).trans (hbe HY.out)
      · exact (bal HB.out (Nat.le_refl _) _).trans (hb4.mono (by omega))
    · have HTK : Hid (d.data.take (s + keep.toNat) = d.data.take k) := Lib.hid (by
        by_cases h1 : k < m
        · rcases hkn with h2 | h2
          · rw [show s + keep.toNat = k by omega]
          · rw [show s + keep.toNat = k by omega]
        · rw [List.take_of_length_le (by rw [← HN.out]; omega), List.take_of_length_le (by rw [← HN.out]; omega)])
      have HP2 := Lib.hid (HP.out k hk HTK.out)
      have x2 := HX.out.c2; have x3 := HX.out.c3; have x4 := HX.out.c4
      have y0 := HY.out.c0; have y1 := HY.out.c1; have y2 := HY.out.c2; have y3 := HY.out.c3; have y4 := HY.out.c4
      have g0 := frozen_of_row wr (w.heap.size + 1) 0 _ _ HY.out
      have g1 := frozen_of_row wr (w.heap.size + 1) 1 _ _ HY.out
      have g2 := frozen_of_row wr (w.heap.size + 1) 2 _ _ HY.out
      have g3 := frozen_of_row wr (w.heap.size + 1) 3 _ _ HY.out
      have g4 := frozen_of_row wr (w.heap.size + 1) 4 _ _ HY.out
      by_cases h1 : k < m
      · have h2 : keep ≤ (k : Int) - s := by omega
        go_wp2
        refine bodyPost_ret (results_disk (g := w.heap.size + 1) rfl rfl (((((HY.out.setA A3 k c3).setS (k : Int)).setR d.room).setF (-1)).setO false)) rfl ?_
        rw [HP2.out]
        refine ⟨_, rfl, ⟨A3, k, c3, rfl, ?_, HO.out.cap, own_two HF.out HO.out ((((((Kp.refl (Two F w.heap.size) wr).setCell (Or.inr (Or.inr rfl)) _).setCell (Or.inr (Or.inr rfl)) _).setCell (Or.inr (Or.inr rfl)) _).setCell (Or.inr (Or.inr rfl)) _).setCell (Or.inr (Or.inr rfl)) _)⟩, (((((HB.out.setCell (Nat.le_succ _) _).setCell (Nat.le_succ _) _).setCell (Nat.le_succ _) _).setCell (Nat.le_succ _) _).setCell (Nat.le_succ _) _)⟩
        rw [List.length_take, Nat.min_eq_left (by rw [← HN.out]; exact hk)]
      · go_wp2
        refine bodyPost_ret (results_disk (g := w.heap.size + 1) rfl rfl (((((HY.out.setA A3 k c3).setS (k : Int)).setR d.room).setF (-1)).setO false)) rfl ?_
        rw [HP2.out]
        refine ⟨_, rfl, ⟨A3, k, c3, rfl, ?_, HO.out.cap, own_two HF.out HO.out ((((((Kp.refl (Two F w.heap.size) wr).setCell (Or.inr (Or.inr rfl)) _).setCell (Or.inr (Or.inr rfl)) _).setCell (Or.inr (Or.inr rfl)) _).setCell (Or.inr (Or.inr rfl)) _).setCell (Or.inr (Or.inr rfl)) _)⟩, (((((HB.out.setCell (Nat.le_succ _) _).setCell (Nat.le_succ _) _).setCell (Nat.le_succ _) _).setCell (Nat.le_succ _) _).setCell (Nat.le_succ _) _)⟩
        rw [List.length_take, Nat.min_eq_left (by rw [← HN.out]; exact hk)]
end Go.Proofs.Ytgcmejhgfdipkaa.Dkw
