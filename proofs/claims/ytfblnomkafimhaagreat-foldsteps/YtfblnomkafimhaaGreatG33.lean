/- Contracts and words on which the claims of this seat stand, part 33: FoX. -/
import Derived.Test.YtfblnomkafimhaaGreatG31
import Derived.Test.YtfblnomkafimhaaGreatG32
set_option linter.unusedSimpArgs false
set_option linter.unusedVariables false
namespace Go.Proofs.YtfblnomkafimhaaGreat.Fow
set_option maxRecDepth 20000
open Go.RowKit
open Cl Bk Lg Fo Clw Bkw
open Lgw (rvv Rx KR Sr Elv elv_at)
open Chgw (hat hbe vw)
open Rg (bal)

theorem nat_dec (a b : Nat) : decide (a = b) = decide ((a : Int) = (b : Int)) := by
  by_cases h : a = b
  · rw [decide_eq_true h, decide_eq_true (by omega)]
  · rw [decide_eq_false h, decide_eq_false (by omega)]
theorem pair_dec (a b : Nat × Nat) : (a == b) = decide ((a.1 : Int) = (b.1 : Int) ∧ (a.2 : Int) = (b.2 : Int)) := by
  rw [Bool.eq_iff_iff, beq_iff_eq, decide_eq_true_iff, Prod.ext_iff]
  omega
set_option maxHeartbeats 4000000 in
theorem same_o (s t : St) (b c i b2 c2 i2 : Sl) (w : World) (h : Sto w s b c i) (h2 : Sto w t b2 c2 i2) : Calls Tryz.prog 23 #[stv s b c i, stv t b2 c2 i2] w fun e w' => e = .returned (.bool (sameS s t)) ∧ Below w.heap.size w w' := by
  have heq := Chgw.eq_view
  have heq2 := eq_intent
  have HS := Lib.hid h; have HT := Lib.hid h2
  obtain ⟨xs, hb1, hb2, hb3, hb4, hb5⟩ := h.1
  obtain ⟨ys, hc1, hc2, hc3, hc4, hc5⟩ := h.2.1
  obtain ⟨hi1, hi2, hi3, hi4⟩ := h.2.2
  obtain ⟨xs2, kb1, kb2, kb3, kb4, kb5⟩ := h2.1
  obtain ⟨ys2, kc1, kc2, kc3, kc4, kc5⟩ := h2.2.1
  obtain ⟨ki1, ki2, ki3, ki4⟩ := h2.2.2
  have HB1 := Lib.hid hb4; have HC1 := Lib.hid hc4; have HI1 := Lib.hid hi4; have HB2 := Lib.hid kb4; have HC2 := Lib.hid kc4; have HI2 := Lib.hid ki4
  have HXB := Lib.hid hb5; have HXC := Lib.hid hc5; have HXB2 := Lib.hid kb5; have HXC2 := Lib.hid kc5
  have HNB := Lib.hid hb1; have HNC := Lib.hid hc1; have HNI := Lib.hid hi1; have HNB2 := Lib.hid kb1; have HNC2 := Lib.hid kc1; have HNI2 := Lib.hid ki1
  have hmb : b.n ≤ 140737488355328 := by omega
  have hmc : c.n ≤ 140737488355328 := by omega
  have hmi : i.n ≤ 140737488355328 := by omega
  clear h h2 hb1 hb2 hb3 hb4 hb5 hc1 hc2 hc3 hc4 hc5 hi1 hi2 hi3 hi4 kb1 kb2 kb3 kb4 kb5 kc1 kc2 kc3 kc4 kc5 ki1 ki2 ki3 ki4
  unfold stv
  go_enter Tryz.func23, Tryz.ntmps23
  go_upto_region 1 with (fail)
  have HX := Lib.hid (show Sx ((w.alloc (.cells #[.slice b.a b.n b.c, .slice c.a c.n c.c, .slice i.a i.n i.c, .int .i64 (s.held.1 : Int), .int .i64 (s.held.2 : Int), .int .i64 s.inc, .int .i64 s.last] 28)).alloc (.cells #[.slice b2.a b2.n b2.c, .slice c2.a c2.n c2.c, .slice i2.a i2.n i2.c, .int .i64 (t.held.1 : Int), .int .i64 (t.held.2 : Int), .int .i64 t.inc, .int .i64 t.last] 28)) w.heap.size s b c i from hbe (hat _ _ _ rfl))
  have HY := Lib.hid (show Sx ((w.alloc (.cells #[.slice b.a b.n b.c, .slice c.a c.n c.c, .slice i.a i.n i.c, .int .i64 (s.held.1 : Int), .int .i64 (s.held.2 : Int), .int .i64 s.inc, .int .i64 s.last] 28)).alloc (.cells #[.slice b2.a b2.n b2.c, .slice c2.a c2.n c2.c, .slice i2.a i2.n i2.c, .int .i64 (t.held.1 : Int), .int .i64 (t.held.2 : Int), .int .i64 t.inc, .int .i64 t.last] 28)) (w.heap.size + 1) t b2 c2 i2 from hat _ _ _ (by simp))
  have HB := Lib.hid (bal (bal (Below.refl w.heap.size w) (Nat.le_refl _) (.cells #[.slice b.a b.n b.c, .slice c.a c.n c.c, .slice i.a i.n i.c, .int .i64 (s.held.1 : Int), .int .i64 (s.held.2 : Int), .int .i64 s.inc, .int .i64 s.last] 28)) (Nat.le_refl _) (.cells #[.slice b2.a b2.n b2.c, .slice c2.a c2.n c2.c, .slice i2.a i2.n i2.c, .int .i64 (t.held.1 : Int), .int .i64 (t.held.2 : Int), .int .i64 t.inc, .int .i64 t.last] 28))
  generalize (w.alloc (.cells #[.slice b.a b.n b.c, .slice c.a c.n c.c, .slice i.a i.n i.c, .int .i64 (s.held.1 : Int), .int .i64 (s.held.2 : Int), .int .i64 s.inc, .int .i64 s.last] 28)).alloc (.cells #[.slice b2.a b2.n b2.c, .slice c2.a c2.n c2.c, .slice i2.a i2.n i2.c, .int .i64 (t.held.1 : Int), .int .i64 (t.held.2 : Int), .int .i64 t.inc, .int .i64 t.last] 28) = w1 at HX HY HB ⊢
  generalize w.heap.size + 1 = gt at HY ⊢
  generalize hgs : w.heap.size = gs at HX ⊢
  have HGS := Lib.hid hgs; clear hgs
  obtain ⟨z0, z1, z2, z3, z4, z5, z6⟩ := HX.out.cs
  obtain ⟨y0, y1, y2, y3, y4, y5, y6⟩ := HY.out.cs
  generalize (Value.agg #[.slice b.a b.n b.c, .slice c.a c.n c.c, .slice i.a i.n i.c, .int .i64 (s.held.1 : Int), .int .i64 (s.held.2 : Int), .int .i64 s.inc, .int .i64 s.last]) = V0
  generalize (Value.agg #[.slice b2.a b2.n b2.c, .slice c2.a c2.n c2.c, .slice i2.a i2.n i2.c, .int .i64 (t.held.1 : Int), .int .i64 (t.held.2 : Int), .int .i64 t.inc, .int .i64 t.last]) = V1
  go_cut [53] (fun x wq => ∃ fb : Bool, x = .bool fb ∧ fb = unl s t ∧ wq = w1)
  case first =>
    have HU : Hid (unl s t = !(decide ((b.n : Int) = (b2.n : Int)) && (decide ((c.n : Int) = (c2.n : Int)) && (decide ((i.n : Int) = (i2.n : Int)) && (decide ((s.held.1 : Int) = (t.held.1 : Int) ∧ (s.held.2 : Int) = (t.held.2 : Int)) && (decide (s.inc = t.inc) && (s.last == t.last))))))) := Lib.hid (by
      unfold unl
      rw [HNB.out, HNC.out, HNI.out, HNB2.out, HNC2.out, HNI2.out, nat_dec, nat_dec, nat_dec, pair_dec]
      simp only [Bool.not_and]
      rfl)
    go_wp2
    all_goals (clear z0 z1 z2 z3 z4 z5 z6 y0 y1 y2 y3 y4 y5 y6)
    all_goals go_meet
    all_goals (refine ⟨_, rfl, ?_, rfl⟩; rw [HU.out]; simp_all only [decide_true, decide_false, Bool.true_and, Bool.false_and, Bool.not_false, Bool.not_true, and_self, bne])
  case rest =>
    obtain ⟨fb, rfl, hfb, rfl⟩ := hcut
    clear z0 z1 z2 z3 z4 z5 z6 y0 y1 y2 y3 y4 y5 y6
    cases fb with
    | true =>
      have HE := Lib.hid (same_unl hfb.symm)
      clear hfb
      go_wp2
      go_ret
      refine ⟨?_, HB.out⟩
      rw [HE.out]
      rfl
    | false =>
      have HL := Lib.hid (same_rest hfb.symm).1
      have HSM := Lib.hid (same_rest hfb.symm).2
      clear hfb
      obtain ⟨z0, z1, z2, z3, z4, z5, z6⟩ := HX.out.cs
      go_wp2
      go_loopw [57] (fun u wr => ∃ k : Nat, u = .int .i64 k ∧ k ≤ b.n ∧ (∀ (j : Nat) x y, j < k → s.books[j]? = some x → t.books[j]? = some y → eqB x y = true) ∧ Sx wr gs s b c i ∧ Sx wr gt t b2 c2 i2 ∧ Below w.heap.size w wr) (fun u _ => b.n - (intOf u).toNat)
      case atStart => exact ⟨0, rfl, by omega, by intro j x y h; omega, HX.out, HY.out, HB.out⟩
      case round =>
        clear HX HY HB z0 z1 z2 z3 z4 z5 z6
        rename World => wl
        obtain ⟨k, rfl, hk, hf, hx, hy, hb⟩ := hrel
        have HF := Lib.hid hf; have HX := Lib.hid hx; have HY := Lib.hid hy; have HB := Lib.hid hb
        clear hf hx hy hb
        by_cases h : k < b.n
        · have hl1 := HXB.out.1; have hl2 := HXB2.out.1; have hl3 := HNB.out; have hl4 := HNB2.out; have hl5 := HL.out.1
          have hlx : k < xs.length := by omega
          have hly : k < xs2.length := by omega
          have hls : k < s.books.length := by omega
          have hlt : k < t.books.length := by omega
          obtain ⟨g1, o1, hA, hgB, hc1⟩ := HB1.out (by omega)
          obtain ⟨g2, o2, hA2, hgB2, hc2⟩ := HB2.out (by omega)
          have hzx : xs[k]? = some xs[k] := List.getElem?_eq_getElem hlx
          have hzy : xs2[k]? = some xs2[k] := List.getElem?_eq_getElem hly
          have hzs : s.books[k]? = some s.books[k] := List.getElem?_eq_getElem hls
          have hzt : t.books[k]? = some t.books[k] := List.getElem?_eq_getElem hlt
          have HQX := Lib.hid (HXB.out.2 k _ _ hzx hzs); have HQY := Lib.hid (HXB2.out.2 k _ _ hzy hzt)
          have HZS := Lib.hid hzs; have HZT := Lib.hid hzt
          have HCX : Hid (∀ W, Below wl.heap.size wl W → W.cell? ⟨g1, o1 + k * 3, none⟩ = some (.int .i64 (xs[k].1.1 : Int)) ∧ W.cell? ⟨g1, o1 + k * 3 + 1, none⟩ = some (.int .i64 (xs[k].1.2 : Int)) ∧ W.cell? ⟨g1, o1 + k * 3 + 2, none⟩ = some (.slice xs[k].2.a xs[k].2.n xs[k].2.c)) := Lib.hid (fun W hW => by
            have hT := HB.out.trans (hW.mono HB.out.size)
            exact ⟨(hT.cell (p := ⟨g1, o1 + k * 3, none⟩) hgB).trans (hc1 k _ hzx 0 _ rfl), (hT.cell (p := ⟨g1, o1 + k * 3 + 1, none⟩) hgB).trans (hc1 k _ hzx 1 _ rfl), (hT.cell (p := ⟨g1, o1 + k * 3 + 2, none⟩) hgB).trans (hc1 k _ hzx 2 _ rfl)⟩)
          have HCY : Hid (∀ W, Below wl.heap.size wl W → W.cell? ⟨g2, o2 + k * 3, none⟩ = some (.int .i64 (xs2[k].1.1 : Int)) ∧ W.cell? ⟨g2, o2 + k * 3 + 1, none⟩ = some (.int .i64 (xs2[k].1.2 : Int)) ∧ W.cell? ⟨g2, o2 + k * 3 + 2, none⟩ = some (.slice xs2[k].2.a xs2[k].2.n xs2[k].2.c)) := Lib.hid (fun W hW => by
            have hT := HB.out.trans (hW.mono HB.out.size)
            exact ⟨(hT.cell (p := ⟨g2, o2 + k * 3, none⟩) hgB2).trans (hc2 k _ hzy 0 _ rfl), (hT.cell (p := ⟨g2, o2 + k * 3 + 1, none⟩) hgB2).trans (hc2 k _ hzy 1 _ rfl), (hT.cell (p := ⟨g2, o2 + k * 3 + 2, none⟩) hgB2).trans (hc2 k _ hzy 2 _ rfl)⟩)
          have HQ : Hid (∀ W, Below wl.heap.size wl W → W.cell? ⟨gs, 0, none⟩ = some (.slice (some ⟨g1, o1, none⟩) b.n b.c) ∧ W.cell? ⟨gt, 0, none⟩ = some (.slice (some ⟨g2, o2, none⟩) b2.n b2.c)) := Lib.hid (fun W hW => by
            have a1 := (HX.out.all hW).cs.1
            have a2 := (HY.out.all hW).cs.1
            rw [hA] at a1
            rw [hA2] at a2
            exact ⟨a1, a2⟩)
          have hk2 : k < b2.n := by omega
          generalize xs[k] = x at HQX HCX
          generalize xs2[k] = y at HQY HCY
          generalize s.books[k] = X at HQX HZS
          generalize t.books[k] = Y at HQY HZT
          clear hl1 hl2 hl3 hl4 hl5 hlx hly hls hlt hA hA2 hgB hgB2 hc1 hc2 hzx hzy hzs hzt
          go_upto_region 6 with (fail)
          have hi1 : (k : Int) < (b.n : Int) := by omega
          have hi2 : (k : Int) < (b2.n : Int) := by omega
          have hw1 : IntKind.i64.wrap (k : Int) = (k : Int) := by simp [IntKind.wrap, IntKind.bits, IntKind.signed]; omega
          refine wp_region_held_drew (S := fun W' => Below wl.heap.size wl W') (by kernel_rfl) (Below.refl _ _).drew (fun hHeld => ?_)
          generalize wl.drew = w5 at hHeld ⊢
          have HB5 : Hid (Below wl.heap.size wl w5) := hHeld
          clear hHeld
          have HEQ : Hid (eqB X Y = (x.1 == y.1 && same X.2 Y.2)) := Lib.hid (by unfold eqB; rw [HQX.out.1, HQY.out.1])
          have HNO : Hid (eqB X Y = false → sameS s t = false) := Lib.hid (fun he => by rw [HSM.out, zip_false k HZS.out HZT.out he]; rfl)
          by_cases hvq : x.1 = y.1
          · have hve : ((x.1.1 : Int) == (y.1.1 : Int) && (x.1.2 : Int) == (y.1.2 : Int)) = true := by rw [hvq]; simp
            have HEQ : Hid (eqB X Y = same X.2 Y.2) := Lib.hid (by rw [HEQ.out, hvq]; simp)
            clear hvq
            refine take_in (i := 0) (oi := ⟨_, _, _, _, _, _⟩) (v := ?_) rfl (by kernel_rfl) (by kernel_rfl) (by kernel_rfl) (fun _ _ _ h => h) (by rfl) ?_ HB5.out ?_
            rotate_left
            · intro W hW; obtain ⟨q1, q2⟩ := HQ.out W hW; obtain ⟨q3, q4, q5⟩ := HCX.out W hW; obtain ⟨q6, q7, q8⟩ := HCY.out W hW; go_simp; with_reducible rfl
            simp only [Act.put, List.setIfInBounds_toArray, List.set_cons_zero, List.set_cons_succ]
            refine take_in (i := 1) (oi := ⟨_, _, _, _, _, _⟩) (v := ?_) rfl (by kernel_rfl) (by kernel_rfl) (by kernel_rfl) (fun _ _ _ h => h) (by rfl) ?_ HB5.out ?_
            rotate_left
            · intro W hW; obtain ⟨q1, q2⟩ := HQ.out W hW; obtain ⟨q3, q4, q5⟩ := HCX.out W hW; obtain ⟨q6, q7, q8⟩ := HCY.out W hW; go_simp; with_reducible rfl
            simp only [Act.put, List.setIfInBounds_toArray, List.set_cons_zero, List.set_cons_succ]
            refine take_in (i := 2) (oi := ⟨_, _, _, _, _, _⟩) (v := ?_) rfl (by kernel_rfl) (by kernel_rfl) (by kernel_rfl) (fun _ _ _ h => h) (by rfl) ?_ HB5.out ?_
            rotate_left
            · intro W hW; obtain ⟨q1, q2⟩ := HQ.out W hW; obtain ⟨q3, q4, q5⟩ := HCX.out W hW; obtain ⟨q6, q7, q8⟩ := HCY.out W hW; go_simp; with_reducible rfl
            simp only [Act.put, List.setIfInBounds_toArray, List.set_cons_zero, List.set_cons_succ]
            refine take_in (i := 3) (oi := ⟨_, _, _, _, _, _⟩) (v := ?_) rfl (by kernel_rfl) (by kernel_rfl) (by kernel_rfl) (fun _ _ _ h => h) (by rfl) ?_ HB5.out ?_
            rotate_left
            · intro W hW; obtain ⟨q1, q2⟩ := HQ.out W hW; obtain ⟨q3, q4, q5⟩ := HCX.out W hW; obtain ⟨q6, q7, q8⟩ := HCY.out W hW; go_simp; with_reducible rfl
            simp only [Act.put, List.setIfInBounds_toArray, List.set_cons_zero, List.set_cons_succ]
            refine take_in (i := 4) (oi := ⟨_, _, _, _, _, _⟩) (v := ?_) rfl (by kernel_rfl) (by kernel_rfl) (by kernel_rfl) (fun _ _ _ h => h) (by rfl) ?_ HB5.out ?_
            rotate_left
            · intro W hW; obtain ⟨q1, q2⟩ := HQ.out W hW; obtain ⟨q3, q4, q5⟩ := HCX.out W hW; obtain ⟨q6, q7, q8⟩ := HCY.out W hW; go_simp; with_reducible rfl
            simp only [Act.put, List.setIfInBounds_toArray, List.set_cons_zero, List.set_cons_succ]
            refine take_in (i := 5) (oi := ⟨_, _, _, _, _, _⟩) (v := ?_) rfl (by kernel_rfl) (by kernel_rfl) (by kernel_rfl) (fun _ _ _ h => h) (by rfl) ?_ HB5.out ?_
            rotate_left
            · intro W hW; obtain ⟨q1, q2⟩ := HQ.out W hW; obtain ⟨q3, q4, q5⟩ := HCX.out W hW; obtain ⟨q6, q7, q8⟩ := HCY.out W hW; go_simp; with_reducible rfl
            simp only [Act.put, List.setIfInBounds_toArray, List.set_cons_zero, List.set_cons_succ]
            refine take_in (i := 6) (oi := ⟨_, _, _, _, _, _⟩) (v := ?_) rfl (by kernel_rfl) (by kernel_rfl) (by kernel_rfl) (fun _ _ _ h => h) (by rfl) ?_ HB5.out ?_
            rotate_left
            · intro W hW; obtain ⟨q1, q2⟩ := HQ.out W hW; obtain ⟨q3, q4, q5⟩ := HCX.out W hW; obtain ⟨q6, q7, q8⟩ := HCY.out W hW; go_simp; with_reducible rfl
            simp only [Act.put, List.setIfInBounds_toArray, List.set_cons_zero, List.set_cons_succ]
            refine take_in (i := 7) (oi := ⟨_, _, _, _, _, _⟩) (v := ?_) rfl (by kernel_rfl) (by kernel_rfl) (by kernel_rfl) (fun _ _ _ h => h) (by rfl) ?_ HB5.out ?_
            rotate_left
            · intro W hW; obtain ⟨q1, q2⟩ := HQ.out W hW; obtain ⟨q3, q4, q5⟩ := HCX.out W hW; obtain ⟨q6, q7, q8⟩ := HCY.out W hW; go_simp; with_reducible rfl
            simp only [Act.put, List.setIfInBounds_toArray, List.set_cons_zero, List.set_cons_succ]
            refine take_in (i := 8) (oi := ⟨_, _, _, _, _, _⟩) (v := ?_) rfl (by kernel_rfl) (by kernel_rfl) (by kernel_rfl) (fun _ _ _ h => h) (by rfl) ?_ HB5.out ?_
            rotate_left
            · intro W hW; obtain ⟨q1, q2⟩ := HQ.out W hW; obtain ⟨q3, q4, q5⟩ := HCX.out W hW; obtain ⟨q6, q7, q8⟩ := HCY.out W hW; go_simp; with_reducible rfl
            simp only [Act.put, List.setIfInBounds_toArray, List.set_cons_zero, List.set_cons_succ]
            refine take_in (i := 9) (oi := ⟨_, _, _, _, _, _⟩) (v := ?_) rfl (by kernel_rfl) (by kernel_rfl) (by kernel_rfl) (fun _ _ _ h => h) (by rfl) ?_ HB5.out ?_
            rotate_left
            · intro W hW; obtain ⟨q1, q2⟩ := HQ.out W hW; obtain ⟨q3, q4, q5⟩ := HCX.out W hW; obtain ⟨q6, q7, q8⟩ := HCY.out W hW; go_simp; with_reducible rfl
            simp only [Act.put, List.setIfInBounds_toArray, List.set_cons_zero, List.set_cons_succ]
            refine take_in (i := 10) (oi := ⟨_, _, _, _, _, _⟩) (v := ?_) rfl (by kernel_rfl) (by kernel_rfl) (by kernel_rfl) (fun _ _ _ h => h) (by rfl) ?_ HB5.out ?_
            rotate_left
            · intro W hW; obtain ⟨q1, q2⟩ := HQ.out W hW; obtain ⟨q3, q4, q5⟩ := HCX.out W hW; obtain ⟨q6, q7, q8⟩ := HCY.out W hW; go_simp; with_reducible rfl
            simp only [Act.put, List.setIfInBounds_toArray, List.set_cons_zero, List.set_cons_succ]
            refine take_in (i := 11) (oi := ⟨_, _, _, _, _, _⟩) (v := ?_) rfl (by kernel_rfl) (by kernel_rfl) (by kernel_rfl) (fun _ _ _ h => h) (by rfl) ?_ HB5.out ?_
            rotate_left
            · intro W hW; obtain ⟨q1, q2⟩ := HQ.out W hW; obtain ⟨q3, q4, q5⟩ := HCX.out W hW; obtain ⟨q6, q7, q8⟩ := HCY.out W hW; go_simp; with_reducible rfl
            simp only [Act.put, List.setIfInBounds_toArray, List.set_cons_zero, List.set_cons_succ]
            refine take_in (i := 12) (oi := ⟨_, _, _, _, _, _⟩) (v := ?_) rfl (by kernel_rfl) (by kernel_rfl) (by kernel_rfl) (fun _ _ _ h => h) (by rfl) ?_ HB5.out ?_
            rotate_left
            · intro W hW; obtain ⟨q1, q2⟩ := HQ.out W hW; obtain ⟨q3, q4, q5⟩ := HCX.out W hW; obtain ⟨q6, q7, q8⟩ := HCY.out W hW; go_simp; with_reducible rfl
            simp only [Act.put, List.setIfInBounds_toArray, List.set_cons_zero, List.set_cons_succ]
            refine take_in (i := 13) (oi := ⟨_, _, _, _, _, _⟩) (v := ?_) rfl (by kernel_rfl) (by kernel_rfl) (by kernel_rfl) (fun _ _ _ h => h) (by rfl) ?_ HB5.out ?_
            rotate_left
            · intro W hW; obtain ⟨q1, q2⟩ := HQ.out W hW; obtain ⟨q3, q4, q5⟩ := HCX.out W hW; obtain ⟨q6, q7, q8⟩ := HCY.out W hW; go_simp; with_reducible rfl
            simp only [Act.put, List.setIfInBounds_toArray, List.set_cons_zero, List.set_cons_succ]
            refine take_in (i := 14) (oi := ⟨_, _, _, _, _, _⟩) (v := ?_) rfl (by kernel_rfl) (by kernel_rfl) (by kernel_rfl) (fun _ _ _ h => h) (by rfl) ?_ HB5.out ?_
            rotate_left
            · intro W hW; obtain ⟨q1, q2⟩ := HQ.out W hW; obtain ⟨q3, q4, q5⟩ := HCX.out W hW; obtain ⟨q6, q7, q8⟩ := HCY.out W hW; go_simp; with_reducible rfl
            simp only [Act.put, List.setIfInBounds_toArray, List.set_cons_zero, List.set_cons_succ]
            refine take_in (i := 15) (oi := ⟨_, _, _, _, _, _⟩) (v := ?_) rfl (by kernel_rfl) (by kernel_rfl) (by kernel_rfl) (fun _ _ _ h => h) (by rfl) ?_ HB5.out ?_
            rotate_left
            · intro W hW; obtain ⟨q1, q2⟩ := HQ.out W hW; obtain ⟨q3, q4, q5⟩ := HCX.out W hW; obtain ⟨q6, q7, q8⟩ := HCY.out W hW; go_simp; with_reducible rfl
            simp only [Act.put, List.setIfInBounds_toArray, List.set_cons_zero, List.set_cons_succ]
            refine take_in (i := 16) (oi := ⟨_, _, _, _, _, _⟩) (v := ?_) rfl (by kernel_rfl) (by kernel_rfl) (by kernel_rfl) (fun _ _ _ h => h) (by rfl) ?_ HB5.out ?_
            rotate_left
            · intro W hW; obtain ⟨q1, q2⟩ := HQ.out W hW; obtain ⟨q3, q4, q5⟩ := HCX.out W hW; obtain ⟨q6, q7, q8⟩ := HCY.out W hW; go_simp; with_reducible rfl
            simp only [Act.put, List.setIfInBounds_toArray, List.set_cons_zero, List.set_cons_succ]
            refine take_in (i := 17) (oi := ⟨_, _, _, _, _, _⟩) (v := ?_) rfl (by kernel_rfl) (by kernel_rfl) (by kernel_rfl) (fun _ _ _ h => h) (by rfl) ?_ HB5.out ?_
            rotate_left
            · intro W hW; obtain ⟨q1, q2⟩ := HQ.out W hW; obtain ⟨q3, q4, q5⟩ := HCX.out W hW; obtain ⟨q6, q7, q8⟩ := HCY.out W hW; go_simp; with_reducible rfl
            simp only [Act.put, List.setIfInBounds_toArray, List.set_cons_zero, List.set_cons_succ]
            refine take_in (i := 18) (oi := ⟨_, _, _, _, _, _⟩) (v := ?_) rfl (by kernel_rfl) (by kernel_rfl) (by kernel_rfl) (fun _ _ _ h => h) (by rfl) ?_ HB5.out ?_
            rotate_left
            · intro W hW; obtain ⟨q1, q2⟩ := HQ.out W hW; obtain ⟨q3, q4, q5⟩ := HCX.out W hW; obtain ⟨q6, q7, q8⟩ := HCY.out W hW; go_simp; with_reducible rfl
            simp only [Act.put, List.setIfInBounds_toArray, List.set_cons_zero, List.set_cons_succ]
            refine take_in (i := 19) (oi := ⟨_, _, _, _, _, _⟩) (v := ?_) rfl (by kernel_rfl) (by kernel_rfl) (by kernel_rfl) (fun _ _ _ h => h) (by rfl) ?_ HB5.out ?_
            rotate_left
            · intro W hW; obtain ⟨q1, q2⟩ := HQ.out W hW; obtain ⟨q3, q4, q5⟩ := HCX.out W hW; obtain ⟨q6, q7, q8⟩ := HCY.out W hW; go_simp; with_reducible rfl
            simp only [Act.put, List.setIfInBounds_toArray, List.set_cons_zero, List.set_cons_succ]
            refine take_in (i := 20) (oi := ⟨_, _, _, _, _, _⟩) (v := ?_) rfl (by kernel_rfl) (by kernel_rfl) (by kernel_rfl) (fun _ _ _ h => h) (by rfl) ?_ HB5.out ?_
            rotate_left
            · intro W hW; obtain ⟨q1, q2⟩ := HQ.out W hW; obtain ⟨q3, q4, q5⟩ := HCX.out W hW; obtain ⟨q6, q7, q8⟩ := HCY.out W hW; go_simp; with_reducible rfl
            simp only [Act.put, List.setIfInBounds_toArray, List.set_cons_zero, List.set_cons_succ]
            refine take_in (i := 21) (oi := ⟨_, _, _, _, _, _⟩) (v := ?_) rfl (by kernel_rfl) (by kernel_rfl) (by kernel_rfl) (fun _ _ _ h => h) (by rfl) ?_ HB5.out ?_
            rotate_left
            · intro W hW; obtain ⟨q1, q2⟩ := HQ.out W hW; obtain ⟨q3, q4, q5⟩ := HCX.out W hW; obtain ⟨q6, q7, q8⟩ := HCY.out W hW; go_simp; with_reducible rfl
            simp only [Act.put, List.setIfInBounds_toArray, List.set_cons_zero, List.set_cons_succ]
            refine take_in (i := 22) (oi := ⟨_, _, _, _, _, _⟩) (v := ?_) rfl (by kernel_rfl) (by kernel_rfl) (by kernel_rfl) (fun _ _ _ h => h) (by rfl) ?_ HB5.out ?_
            rotate_left
            · intro W hW; obtain ⟨q1, q2⟩ := HQ.out W hW; obtain ⟨q3, q4, q5⟩ := HCX.out W hW; obtain ⟨q6, q7, q8⟩ := HCY.out W hW; go_simp; with_reducible rfl
            simp only [Act.put, List.setIfInBounds_toArray, List.set_cons_zero, List.set_cons_succ]
            refine take_in (i := 23) (oi := ⟨_, _, _, _, _, _⟩) (v := ?_) rfl (by kernel_rfl) (by kernel_rfl) (by kernel_rfl) (fun _ _ _ h => h) (by rfl) ?_ HB5.out ?_
            rotate_left
            · intro W hW; obtain ⟨q1, q2⟩ := HQ.out W hW; obtain ⟨q3, q4, q5⟩ := HCX.out W hW; obtain ⟨q6, q7, q8⟩ := HCY.out W hW; go_simp; with_reducible rfl
            simp only [Act.put, List.setIfInBounds_toArray, List.set_cons_zero, List.set_cons_succ]
            refine take_in (i := 24) (oi := ⟨_, _, _, _, _, _⟩) (v := ?_) rfl (by kernel_rfl) (by kernel_rfl) (by kernel_rfl) (fun _ _ _ h => h) (by rfl) ?_ HB5.out ?_
            rotate_left
            · intro W hW; obtain ⟨q1, q2⟩ := HQ.out W hW; obtain ⟨q3, q4, q5⟩ := HCX.out W hW; obtain ⟨q6, q7, q8⟩ := HCY.out W hW; go_simp; with_reducible rfl
            simp only [Act.put, List.setIfInBounds_toArray, List.set_cons_zero, List.set_cons_succ]
            refine take_in (i := 25) (oi := ⟨_, _, _, _, _, _⟩) (v := ?_) rfl (by kernel_rfl) (by kernel_rfl) (by kernel_rfl) (fun _ _ _ h => h) (by rfl) ?_ HB5.out ?_
            rotate_left
            · intro W hW; obtain ⟨q1, q2⟩ := HQ.out W hW; obtain ⟨q3, q4, q5⟩ := HCX.out W hW; obtain ⟨q6, q7, q8⟩ := HCY.out W hW; go_simp; with_reducible rfl
            simp only [Act.put, List.setIfInBounds_toArray, List.set_cons_zero, List.set_cons_succ]
            refine wpAnyH_ready (rs := [26]) (by kernel_rfl) (by simp) ?_
            refine AllReadyH.cons (o := ⟨_, _, _, _, _, _⟩) rfl (fun K hK => ?_) AllReadyH.nil
            go_simp
            refine (Bkw.same_o _ _ _ X.2 _ _ _ Y.2 w5 (HQX.out.2.all (HB.out.trans (HB5.out.mono HB.out.size))) (HQY.out.2.all (HB.out.trans (HB5.out.mono HB.out.size)))).mono ?_
            rintro e w6 ⟨rfl, hb6⟩
            have HB6 := Lib.hid (HB5.out.trans (hb6.mono HB5.out.size)); clear hb6
            refine hK.out _ _ HB6.out (fun _ => ?_)
            clear hK K
            generalize same X.2 Y.2 = sv at HEQ ⊢
            refine take_in (i := 27) (oi := ⟨_, _, _, _, _, _⟩) (v := ?_) rfl (by kernel_rfl) (by kernel_rfl) (by kernel_rfl) (fun _ _ _ h => h) (by rfl) ?_ HB6.out ?_
            rotate_left
            · intro W hW; go_simp; with_reducible rfl
            simp only [Act.put, List.setIfInBounds_toArray, List.set_cons_zero, List.set_cons_succ]
            refine take_in (i := 28) (oi := ⟨_, _, _, _, _, _⟩) (v := ?_) rfl (by kernel_rfl) (by kernel_rfl) (by kernel_rfl) (fun _ _ _ h => h) (by rfl) ?_ HB6.out ?_
            rotate_left
            · intro W hW; go_simp; with_reducible rfl
            simp only [Act.put, List.setIfInBounds_toArray, List.set_cons_zero, List.set_cons_succ]
            refine wpAnyH_done (by kernel_rfl) ?_ _
            have HBW := Lib.hid (HB.out.trans (HB6.out.mono HB.out.size))
            have HXW := Lib.hid (HX.out.all HB6.out); have HYW := Lib.hid (HY.out.all HB6.out)
            cases sv with
            | false =>
              have HSF := Lib.hid (HNO.out HEQ.out)
              go_wp2
              go_ret
              refine ⟨?_, HBW.out⟩
              rw [HSF.out]
              rfl
            | true =>
              have HFN : Hid (∀ (j : Nat) u v, j < k + 1 → s.books[j]? = some u → t.books[j]? = some v → eqB u v = true) := Lib.hid (fun j u v hj hu hv => by
                rcases Nat.lt_or_ge j k with h' | h'
                · exact HF.out j u v h' hu hv
                · obtain rfl : j = k := by omega
                  rw [HZS.out] at hu
                  rw [HZT.out] at hv
                  cases hu; cases hv
                  exact HEQ.out)
              go_wp2
              exact ⟨⟨k + 1, by go_num, by omega, HFN.out, HXW.out, HYW.out, HBW.out⟩, by simp [intOf]; omega⟩
          · have hve : ((x.1.1 : Int) == (y.1.1 : Int) && (x.1.2 : Int) == (y.1.2 : Int)) = false := by
              rw [← Bool.not_eq_true, Bool.and_eq_true, beq_iff_eq, beq_iff_eq]
              intro he
              exact hvq (Prod.ext (by omega) (by omega))
            have HSF := Lib.hid (HNO.out (by rw [HEQ.out, beq_eq_false_iff_ne.2 hvq]; rfl))
            clear hvq
            refine take_in (i := 0) (oi := ⟨_, _, _, _, _, _⟩) (v := ?_) rfl (by kernel_rfl) (by kernel_rfl) (by kernel_rfl) (fun _ _ _ h => h) (by rfl) ?_ HB5.out ?_
            rotate_left
            · intro W hW; obtain ⟨q1, q2⟩ := HQ.out W hW; obtain ⟨q3, q4, q5⟩ := HCX.out W hW; obtain ⟨q6, q7, q8⟩ := HCY.out W hW; go_simp; with_reducible rfl
            simp only [Act.put, List.setIfInBounds_toArray, List.set_cons_zero, List.set_cons_succ]
            refine take_in (i := 1) (oi := ⟨_, _, _, _, _, _⟩) (v := ?_) rfl (by kernel_rfl) (by kernel_rfl) (by kernel_rfl) (fun _ _ _ h => h) (by rfl) ?_ HB5.out ?_
            rotate_left
            · intro W hW; obtain ⟨q1, q2⟩ := HQ.out W hW; obtain ⟨q3, q4, q5⟩ := HCX.out W hW; obtain ⟨q6, q7, q8⟩ := HCY.out W hW; go_simp; with_reducible rfl
            simp only [Act.put, List.setIfInBounds_toArray, List.set_cons_zero, List.set_cons_succ]
            refine take_in (i := 2) (oi := ⟨_, _, _, _, _, _⟩) (v := ?_) rfl (by kernel_rfl) (by kernel_rfl) (by kernel_rfl) (fun _ _ _ h => h) (by rfl) ?_ HB5.out ?_
            rotate_left
            · intro W hW; obtain ⟨q1, q2⟩ := HQ.out W hW; obtain ⟨q3, q4, q5⟩ := HCX.out W hW; obtain ⟨q6, q7, q8⟩ := HCY.out W hW; go_simp; with_reducible rfl
            simp only [Act.put, List.setIfInBounds_toArray, List.set_cons_zero, List.set_cons_succ]
            refine take_in (i := 3) (oi := ⟨_, _, _, _, _, _⟩) (v := ?_) rfl (by kernel_rfl) (by kernel_rfl) (by kernel_rfl) (fun _ _ _ h => h) (by rfl) ?_ HB5.out ?_
            rotate_left
            · intro W hW; obtain ⟨q1, q2⟩ := HQ.out W hW; obtain ⟨q3, q4, q5⟩ := HCX.out W hW; obtain ⟨q6, q7, q8⟩ := HCY.out W hW; go_simp; with_reducible rfl
            simp only [Act.put, List.setIfInBounds_toArray, List.set_cons_zero, List.set_cons_succ]
            refine take_in (i := 4) (oi := ⟨_, _, _, _, _, _⟩) (v := ?_) rfl (by kernel_rfl) (by kernel_rfl) (by kernel_rfl) (fun _ _ _ h => h) (by rfl) ?_ HB5.out ?_
            rotate_left
            · intro W hW; obtain ⟨q1, q2⟩ := HQ.out W hW; obtain ⟨q3, q4, q5⟩ := HCX.out W hW; obtain ⟨q6, q7, q8⟩ := HCY.out W hW; go_simp; with_reducible rfl
            simp only [Act.put, List.setIfInBounds_toArray, List.set_cons_zero, List.set_cons_succ]
            refine take_in (i := 5) (oi := ⟨_, _, _, _, _, _⟩) (v := ?_) rfl (by kernel_rfl) (by kernel_rfl) (by kernel_rfl) (fun _ _ _ h => h) (by rfl) ?_ HB5.out ?_
            rotate_left
            · intro W hW; obtain ⟨q1, q2⟩ := HQ.out W hW; obtain ⟨q3, q4, q5⟩ := HCX.out W hW; obtain ⟨q6, q7, q8⟩ := HCY.out W hW; go_simp; with_reducible rfl
            simp only [Act.put, List.setIfInBounds_toArray, List.set_cons_zero, List.set_cons_succ]
            refine take_in (i := 6) (oi := ⟨_, _, _, _, _, _⟩) (v := ?_) rfl (by kernel_rfl) (by kernel_rfl) (by kernel_rfl) (fun _ _ _ h => h) (by rfl) ?_ HB5.out ?_
            rotate_left
            · intro W hW; obtain ⟨q1, q2⟩ := HQ.out W hW; obtain ⟨q3, q4, q5⟩ := HCX.out W hW; obtain ⟨q6, q7, q8⟩ := HCY.out W hW; go_simp; with_reducible rfl
            simp only [Act.put, List.setIfInBounds_toArray, List.set_cons_zero, List.set_cons_succ]
            refine take_in (i := 7) (oi := ⟨_, _, _, _, _, _⟩) (v := ?_) rfl (by kernel_rfl) (by kernel_rfl) (by kernel_rfl) (fun _ _ _ h => h) (by rfl) ?_ HB5.out ?_
            rotate_left
            · intro W hW; obtain ⟨q1, q2⟩ := HQ.out W hW; obtain ⟨q3, q4, q5⟩ := HCX.out W hW; obtain ⟨q6, q7, q8⟩ := HCY.out W hW; go_simp; with_reducible rfl
            simp only [Act.put, List.setIfInBounds_toArray, List.set_cons_zero, List.set_cons_succ]
            refine take_in (i := 8) (oi := ⟨_, _, _, _, _, _⟩) (v := ?_) rfl (by kernel_rfl) (by kernel_rfl) (by kernel_rfl) (fun _ _ _ h => h) (by rfl) ?_ HB5.out ?_
            rotate_left
            · intro W hW; obtain ⟨q1, q2⟩ := HQ.out W hW; obtain ⟨q3, q4, q5⟩ := HCX.out W hW; obtain ⟨q6, q7, q8⟩ := HCY.out W hW; go_simp; with_reducible rfl
            simp only [Act.put, List.setIfInBounds_toArray, List.set_cons_zero, List.set_cons_succ]
            refine take_in (i := 9) (oi := ⟨_, _, _, _, _, _⟩) (v := ?_) rfl (by kernel_rfl) (by kernel_rfl) (by kernel_rfl) (fun _ _ _ h => h) (by rfl) ?_ HB5.out ?_
            rotate_left
            · intro W hW; obtain ⟨q1, q2⟩ := HQ.out W hW; obtain ⟨q3, q4, q5⟩ := HCX.out W hW; obtain ⟨q6, q7, q8⟩ := HCY.out W hW; go_simp; with_reducible rfl
            simp only [Act.put, List.setIfInBounds_toArray, List.set_cons_zero, List.set_cons_succ]
            refine take_in (i := 10) (oi := ⟨_, _, _, _, _, _⟩) (v := ?_) rfl (by kernel_rfl) (by kernel_rfl) (by kernel_rfl) (fun _ _ _ h => h) (by rfl) ?_ HB5.out ?_
            rotate_left
            · intro W hW; obtain ⟨q1, q2⟩ := HQ.out W hW; obtain ⟨q3, q4, q5⟩ := HCX.out W hW; obtain ⟨q6, q7, q8⟩ := HCY.out W hW; go_simp; with_reducible rfl
            simp only [Act.put, List.setIfInBounds_toArray, List.set_cons_zero, List.set_cons_succ]
            refine take_in (i := 11) (oi := ⟨_, _, _, _, _, _⟩) (v := ?_) rfl (by kernel_rfl) (by kernel_rfl) (by kernel_rfl) (fun _ _ _ h => h) (by rfl) ?_ HB5.out ?_
            rotate_left
            · intro W hW; obtain ⟨q1, q2⟩ := HQ.out W hW; obtain ⟨q3, q4, q5⟩ := HCX.out W hW; obtain ⟨q6, q7, q8⟩ := HCY.out W hW; go_simp; with_reducible rfl
            simp only [Act.put, List.setIfInBounds_toArray, List.set_cons_zero, List.set_cons_succ]
            refine take_in (i := 12) (oi := ⟨_, _, _, _, _, _⟩) (v := ?_) rfl (by kernel_rfl) (by kernel_rfl) (by kernel_rfl) (fun _ _ _ h => h) (by rfl) ?_ HB5.out ?_
            rotate_left
            · intro W hW; obtain ⟨q1, q2⟩ := HQ.out W hW; obtain ⟨q3, q4, q5⟩ := HCX.out W hW; obtain ⟨q6, q7, q8⟩ := HCY.out W hW; go_simp; with_reducible rfl
            simp only [Act.put, List.setIfInBounds_toArray, List.set_cons_zero, List.set_cons_succ]
            refine take_in (i := 13) (oi := ⟨_, _, _, _, _, _⟩) (v := ?_) rfl (by kernel_rfl) (by kernel_rfl) (by kernel_rfl) (fun _ _ _ h => h) (by rfl) ?_ HB5.out ?_
            rotate_left
            · intro W hW; obtain ⟨q1, q2⟩ := HQ.out W hW; obtain ⟨q3, q4, q5⟩ := HCX.out W hW; obtain ⟨q6, q7, q8⟩ := HCY.out W hW; go_simp; with_reducible rfl
            simp only [Act.put, List.setIfInBounds_toArray, List.set_cons_zero, List.set_cons_succ]
            refine skip_in (i := 14) (oi := ⟨_, _, _, _, _, _⟩) rfl (by kernel_rfl) (by kernel_rfl) (by kernel_rfl) (fun _ _ _ h => h) (by rfl) HB5.out ?_
            simp only [Act.put, List.setIfInBounds_toArray, List.set_cons_zero, List.set_cons_succ]
            refine skip_in (i := 15) (oi := ⟨_, _, _, _, _, _⟩) rfl (by kernel_rfl) (by kernel_rfl) (by kernel_rfl) (fun _ _ _ h => h) (by rfl) HB5.out ?_
            simp only [Act.put, List.setIfInBounds_toArray, List.set_cons_zero, List.set_cons_succ]
            refine skip_in (i := 16) (oi := ⟨_, _, _, _, _, _⟩) rfl (by kernel_rfl) (by kernel_rfl) (by kernel_rfl) (fun _ _ _ h => h) (by rfl) HB5.out ?_
            simp only [Act.put, List.setIfInBounds_toArray, List.set_cons_zero, List.set_cons_succ]
            refine skip_in (i := 17) (oi := ⟨_, _, _, _, _, _⟩) rfl (by kernel_rfl) (by kernel_rfl) (by kernel_rfl) (fun _ _ _ h => h) (by rfl) HB5.out ?_
            simp only [Act.put, List.setIfInBounds_toArray, List.set_cons_zero, List.set_cons_succ]
            refine skip_in (i := 18) (oi := ⟨_, _, _, _, _, _⟩) rfl (by kernel_rfl) (by kernel_rfl) (by kernel_rfl) (fun _ _ _ h => h) (by rfl) HB5.out ?_
            simp only [Act.put, List.setIfInBounds_toArray, List.set_cons_zero, List.set_cons_succ]
            refine skip_in (i := 19) (oi := ⟨_, _, _, _, _, _⟩) rfl (by kernel_rfl) (by kernel_rfl) (by kernel_rfl) (fun _ _ _ h => h) (by rfl) HB5.out ?_
            simp only [Act.put, List.setIfInBounds_toArray, List.set_cons_zero, List.set_cons_succ]
            refine skip_in (i := 20) (oi := ⟨_, _, _, _, _, _⟩) rfl (by kernel_rfl) (by kernel_rfl) (by kernel_rfl) (fun _ _ _ h => h) (by rfl) HB5.out ?_
            simp only [Act.put, List.setIfInBounds_toArray, List.set_cons_zero, List.set_cons_succ]
            refine skip_in (i := 21) (oi := ⟨_, _, _, _, _, _⟩) rfl (by kernel_rfl) (by kernel_rfl) (by kernel_rfl) (fun _ _ _ h => h) (by rfl) HB5.out ?_
            simp only [Act.put, List.setIfInBounds_toArray, List.set_cons_zero, List.set_cons_succ]
            refine skip_in (i := 22) (oi := ⟨_, _, _, _, _, _⟩) rfl (by kernel_rfl) (by kernel_rfl) (by kernel_rfl) (fun _ _ _ h => h) (by rfl) HB5.out ?_
            simp only [Act.put, List.setIfInBounds_toArray, List.set_cons_zero, List.set_cons_succ]
            refine skip_in (i := 23) (oi := ⟨_, _, _, _, _, _⟩) rfl (by kernel_rfl) (by kernel_rfl) (by kernel_rfl) (fun _ _ _ h => h) (by rfl) HB5.out ?_
            simp only [Act.put, List.setIfInBounds_toArray, List.set_cons_zero, List.set_cons_succ]
            refine skip_in (i := 24) (oi := ⟨_, _, _, _, _, _⟩) rfl (by kernel_rfl) (by kernel_rfl) (by kernel_rfl) (fun _ _ _ h => h) (by rfl) HB5.out ?_
            simp only [Act.put, List.setIfInBounds_toArray, List.set_cons_zero, List.set_cons_succ]
            refine skip_in (i := 25) (oi := ⟨_, _, _, _, _, _⟩) rfl (by kernel_rfl) (by kernel_rfl) (by kernel_rfl) (fun _ _ _ h => h) (by rfl) HB5.out ?_
            simp only [Act.put, List.setIfInBounds_toArray, List.set_cons_zero, List.set_cons_succ]
            refine skip_in (i := 26) (oi := ⟨_, _, _, _, _, _⟩) rfl (by kernel_rfl) (by kernel_rfl) (by kernel_rfl) (fun _ _ _ h => h) (by rfl) HB5.out ?_
            simp only [Act.put, List.setIfInBounds_toArray, List.set_cons_zero, List.set_cons_succ]
            refine skip_in (i := 27) (oi := ⟨_, _, _, _, _, _⟩) rfl (by kernel_rfl) (by kernel_rfl) (by kernel_rfl) (fun _ _ _ h => h) (by rfl) HB5.out ?_
            simp only [Act.put, List.setIfInBounds_toArray, List.set_cons_zero, List.set_cons_succ]
            refine take_in (i := 28) (oi := ⟨_, _, _, _, _, _⟩) (v := ?_) rfl (by kernel_rfl) (by kernel_rfl) (by kernel_rfl) (fun _ _ _ h => h) (by rfl) ?_ HB5.out ?_
            rotate_left
            · intro W hW; go_simp; with_reducible rfl
            simp only [Act.put, List.setIfInBounds_toArray, List.set_cons_zero, List.set_cons_succ]
            refine wpAnyH_done (by kernel_rfl) ?_ _
            have HBW := Lib.hid (HB.out.trans (HB5.out.mono HB.out.size))
            go_wp2
            go_ret
            refine ⟨?_, HBW.out⟩
            rw [HSF.out]
            rfl
        · have hkn : k = b.n := by omega
          have HZ := Lib.hid (zip_true (f := eqB) HL.out.1 (fun j u v hu hv => HF.out j u v (by
            have := (List.getElem?_eq_some_iff.1 hu).1
            have := HNB.out
            omega) hu hv))
          have hj : ¬ ((k : Int) < (b.n : Int)) := by omega
          clear hkn h hk HF
          have HSM := Lib.hid (show sameS s t = (zipA eqC s.cells t.cells && zipA eqI s.ints t.ints) from by rw [HSM.out, HZ.out, Bool.true_and])
          clear HZ
          obtain ⟨z0, z1, z2, z3, z4, z5, z6⟩ := HX.out.cs
          go_wp2
          go_loopw [93] (fun u wr => ∃ k : Nat, u = .int .i64 k ∧ k ≤ c.n ∧ (∀ (j : Nat) x y, j < k → s.cells[j]? = some x → t.cells[j]? = some y → eqC x y = true) ∧ Sx wr gs s b c i ∧ Sx wr gt t b2 c2 i2 ∧ Below w.heap.size w wr) (fun u _ => c.n - (intOf u).toNat)
          case atStart => exact ⟨0, rfl, by omega, by intro j x y h; omega, HX.out, HY.out, HB.out⟩
          case round =>
            clear HX HY HB z0 z1 z2 z3 z4 z5 z6
            rename World => wl
            obtain ⟨k, rfl, hk, hf, hx, hy, hb⟩ := hrel
            have HF := Lib.hid hf; have HX := Lib.hid hx; have HY := Lib.hid hy; have HB := Lib.hid hb
            clear hf hx hy hb
            by_cases h : k < c.n
            · have hl1 := HXC.out.1; have hl2 := HXC2.out.1; have hl3 := HNC.out; have hl4 := HNC2.out; have hl5 := HL.out.2.1
              have hlx : k < ys.length := by omega
              have hly : k < ys2.length := by omega
              have hls : k < s.cells.length := by omega
              have hlt : k < t.cells.length := by omega
              obtain ⟨g1, o1, hA, hgB, hc1⟩ := HC1.out (by omega)
              obtain ⟨g2, o2, hA2, hgB2, hc2⟩ := HC2.out (by omega)
              have hzx : ys[k]? = some ys[k] := List.getElem?_eq_getElem hlx
              have hzy : ys2[k]? = some ys2[k] := List.getElem?_eq_getElem hly
              have hzs : s.cells[k]? = some s.cells[k] := List.getElem?_eq_getElem hls
              have hzt : t.cells[k]? = some t.cells[k] := List.getElem?_eq_getElem hlt
              have HQX := Lib.hid (HXC.out.2 k _ _ hzx hzs); have HQY := Lib.hid (HXC2.out.2 k _ _ hzy hzt)
              have HZS := Lib.hid hzs; have HZT := Lib.hid hzt
              have HCX : Hid (∀ W, Below wl.heap.size wl W → W.cell? ⟨g1, o1 + k * 3, none⟩ = some (.int .i64 (ys[k].1.1 : Int)) ∧ W.cell? ⟨g1, o1 + k * 3 + 1, none⟩ = some (.int .i64 (ys[k].1.2 : Int)) ∧ W.cell? ⟨g1, o1 + k * 3 + 2, none⟩ = some (.slice ys[k].2.a ys[k].2.n ys[k].2.c)) := Lib.hid (fun W hW => by
                have hT := HB.out.trans (hW.mono HB.out.size)
                exact ⟨(hT.cell (p := ⟨g1, o1 + k * 3, none⟩) hgB).trans (hc1 k _ hzx 0 _ rfl), (hT.cell (p := ⟨g1, o1 + k * 3 + 1, none⟩) hgB).trans (hc1 k _ hzx 1 _ rfl), (hT.cell (p := ⟨g1, o1 + k * 3 + 2, none⟩) hgB).trans (hc1 k _ hzx 2 _ rfl)⟩)
              have HCY : Hid (∀ W, Below wl.heap.size wl W → W.cell? ⟨g2, o2 + k * 3, none⟩ = some (.int .i64 (ys2[k].1.1 : Int)) ∧ W.cell? ⟨g2, o2 + k * 3 + 1, none⟩ = some (.int .i64 (ys2[k].1.2 : Int)) ∧ W.cell? ⟨g2, o2 + k * 3 + 2, none⟩ = some (.slice ys2[k].2.a ys2[k].2.n ys2[k].2.c)) := Lib.hid (fun W hW => by
                have hT := HB.out.trans (hW.mono HB.out.size)
                exact ⟨(hT.cell (p := ⟨g2, o2 + k * 3, none⟩) hgB2).trans (hc2 k _ hzy 0 _ rfl), (hT.cell (p := ⟨g2, o2 + k * 3 + 1, none⟩) hgB2).trans (hc2 k _ hzy 1 _ rfl), (hT.cell (p := ⟨g2, o2 + k * 3 + 2, none⟩) hgB2).trans (hc2 k _ hzy 2 _ rfl)⟩)
              have HQ : Hid (∀ W, Below wl.heap.size wl W → W.cell? ⟨gs, 1, none⟩ = some (.slice (some ⟨g1, o1, none⟩) c.n c.c) ∧ W.cell? ⟨gt, 1, none⟩ = some (.slice (some ⟨g2, o2, none⟩) c2.n c2.c)) := Lib.hid (fun W hW => by
                have a1 := (HX.out.all hW).cs.2.1
                have a2 := (HY.out.all hW).cs.2.1
                rw [hA] at a1
                rw [hA2] at a2
                exact ⟨a1, a2⟩)
              have hk2 : k < c2.n := by omega
              generalize ys[k] = x at HQX HCX
              generalize ys2[k] = y at HQY HCY
              generalize s.cells[k] = X at HQX HZS
              generalize t.cells[k] = Y at HQY HZT
              clear hl1 hl2 hl3 hl4 hl5 hlx hly hls hlt hA hA2 hgB hgB2 hc1 hc2 hzx hzy hzs hzt
              go_upto_region 12 with (fail)
              have hi1 : (k : Int) < (c.n : Int) := by omega
              have hi2 : (k : Int) < (c2.n : Int) := by omega
              have hw1 : IntKind.i64.wrap (k : Int) = (k : Int) := by simp [IntKind.wrap, IntKind.bits, IntKind.signed]; omega
              refine wp_region_held_drew (S := fun W' => Below wl.heap.size wl W') (by kernel_rfl) (Below.refl _ _).drew (fun hHeld => ?_)
              generalize wl.drew = w5 at hHeld ⊢
              have HB5 : Hid (Below wl.heap.size wl w5) := hHeld
              clear hHeld
              have HEQ : Hid (eqC X Y = (x.1 == y.1 && sameC X.2 Y.2)) := Lib.hid (by unfold eqC; rw [HQX.out.1, HQY.out.1])
              have HNO : Hid (eqC X Y = false → sameS s t = false) := Lib.hid (fun he => by rw [HSM.out, zip_false k HZS.out HZT.out he]; rfl)
              by_cases hvq : x.1 = y.1
              · have hve : ((x.1.1 : Int) == (y.1.1 : Int) && (x.1.2 : Int) == (y.1.2 : Int)) = true := by rw [hvq]; simp
                have HEQ : Hid (eqC X Y = sameC X.2 Y.2) := Lib.hid (by rw [HEQ.out, hvq]; simp)
                clear hvq
                refine take_in (i := 0) (oi := ⟨_, _, _, _, _, _⟩) (v := ?_) rfl (by kernel_rfl) (by kernel_rfl) (by kernel_rfl) (fun _ _ _ h => h) (by rfl) ?_ HB5.out ?_
                rotate_left
                · intro W hW; obtain ⟨q1, q2⟩ := HQ.out W hW; obtain ⟨q3, q4, q5⟩ := HCX.out W hW; obtain ⟨q6, q7, q8⟩ := HCY.out W hW; go_simp; with_reducible rfl
                simp only [Act.put, List.setIfInBounds_toArray, List.set_cons_zero, List.set_cons_succ]
                refine take_in (i := 1) (oi := ⟨_, _, _, _, _, _⟩) (v := ?_) rfl (by kernel_rfl) (by kernel_rfl) (by kernel_rfl) (fun _ _ _ h => h) (by rfl) ?_ HB5.out ?_
                rotate_left
                · intro W hW; obtain ⟨q1, q2⟩ := HQ.out W hW; obtain ⟨q3, q4, q5⟩ := HCX.out W hW; obtain ⟨q6, q7, q8⟩ := HCY.out W hW; go_simp; with_reducible rfl
                simp only [Act.put, List.setIfInBounds_toArray, List.set_cons_zero, List.set_cons_succ]
                refine take_in (i := 2) (oi := ⟨_, _, _, _, _, _⟩) (v := ?_) rfl (by kernel_rfl) (by kernel_rfl) (by kernel_rfl) (fun _ _ _ h => h) (by rfl) ?_ HB5.out ?_
                rotate_left
                · intro W hW; obtain ⟨q1, q2⟩ := HQ.out W hW; obtain ⟨q3, q4, q5⟩ := HCX.out W hW; obtain ⟨q6, q7, q8⟩ := HCY.out W hW; go_simp; with_reducible rfl
                simp only [Act.put, List.setIfInBounds_toArray, List.set_cons_zero, List.set_cons_succ]
                refine take_in (i := 3) (oi := ⟨_, _, _, _, _, _⟩) (v := ?_) rfl (by kernel_rfl) (by kernel_rfl) (by kernel_rfl) (fun _ _ _ h => h) (by rfl) ?_ HB5.out ?_
                rotate_left
                · intro W hW; obtain ⟨q1, q2⟩ := HQ.out W hW; obtain ⟨q3, q4, q5⟩ := HCX.out W hW; obtain ⟨q6, q7, q8⟩ := HCY.out W hW; go_simp; with_reducible rfl
                simp only [Act.put, List.setIfInBounds_toArray, List.set_cons_zero, List.set_cons_succ]
                refine take_in (i := 4) (oi := ⟨_, _, _, _, _, _⟩) (v := ?_) rfl (by kernel_rfl) (by kernel_rfl) (by kernel_rfl) (fun _ _ _ h => h) (by rfl) ?_ HB5.out ?_
                rotate_left
                · intro W hW; obtain ⟨q1, q2⟩ := HQ.out W hW; obtain ⟨q3, q4, q5⟩ := HCX.out W hW; obtain ⟨q6, q7, q8⟩ := HCY.out W hW; go_simp; with_reducible rfl
                simp only [Act.put, List.setIfInBounds_toArray, List.set_cons_zero, List.set_cons_succ]
                refine take_in (i := 5) (oi := ⟨_, _, _, _, _, _⟩) (v := ?_) rfl (by kernel_rfl) (by kernel_rfl) (by kernel_rfl) (fun _ _ _ h => h) (by rfl) ?_ HB5.out ?_
                rotate_left
                · intro W hW; obtain ⟨q1, q2⟩ := HQ.out W hW; obtain ⟨q3, q4, q5⟩ := HCX.out W hW; obtain ⟨q6, q7, q8⟩ := HCY.out W hW; go_simp; with_reducible rfl
                simp only [Act.put, List.setIfInBounds_toArray, List.set_cons_zero, List.set_cons_succ]
                refine take_in (i := 6) (oi := ⟨_, _, _, _, _, _⟩) (v := ?_) rfl (by kernel_rfl) (by kernel_rfl) (by kernel_rfl) (fun _ _ _ h => h) (by rfl) ?_ HB5.out ?_
                rotate_left
                · intro W hW; obtain ⟨q1, q2⟩ := HQ.out W hW; obtain ⟨q3, q4, q5⟩ := HCX.out W hW; obtain ⟨q6, q7, q8⟩ := HCY.out W hW; go_simp; with_reducible rfl
                simp only [Act.put, List.setIfInBounds_toArray, List.set_cons_zero, List.set_cons_succ]
                refine take_in (i := 7) (oi := ⟨_, _, _, _, _, _⟩) (v := ?_) rfl (by kernel_rfl) (by kernel_rfl) (by kernel_rfl) (fun _ _ _ h => h) (by rfl) ?_ HB5.out ?_
                rotate_left
                · intro W hW; obtain ⟨q1, q2⟩ := HQ.out W hW; obtain ⟨q3, q4, q5⟩ := HCX.out W hW; obtain ⟨q6, q7, q8⟩ := HCY.out W hW; go_simp; with_reducible rfl
                simp only [Act.put, List.setIfInBounds_toArray, List.set_cons_zero, List.set_cons_succ]
                refine take_in (i := 8) (oi := ⟨_, _, _, _, _, _⟩) (v := ?_) rfl (by kernel_rfl) (by kernel_rfl) (by kernel_rfl) (fun _ _ _ h => h) (by rfl) ?_ HB5.out ?_
                rotate_left
                · intro W hW; obtain ⟨q1, q2⟩ := HQ.out W hW; obtain ⟨q3, q4, q5⟩ := HCX.out W hW; obtain ⟨q6, q7, q8⟩ := HCY.out W hW; go_simp; with_reducible rfl
                simp only [Act.put, List.setIfInBounds_toArray, List.set_cons_zero, List.set_cons_succ]
                refine take_in (i := 9) (oi := ⟨_, _, _, _, _, _⟩) (v := ?_) rfl (by kernel_rfl) (by kernel_rfl) (by kernel_rfl) (fun _ _ _ h => h) (by rfl) ?_ HB5.out ?_
                rotate_left
                · intro W hW; obtain ⟨q1, q2⟩ := HQ.out W hW; obtain ⟨q3, q4, q5⟩ := HCX.out W hW; obtain ⟨q6, q7, q8⟩ := HCY.out W hW; go_simp; with_reducible rfl
                simp only [Act.put, List.setIfInBounds_toArray, List.set_cons_zero, List.set_cons_succ]
                refine take_in (i := 10) (oi := ⟨_, _, _, _, _, _⟩) (v := ?_) rfl (by kernel_rfl) (by kernel_rfl) (by kernel_rfl) (fun _ _ _ h => h) (by rfl) ?_ HB5.out ?_
                rotate_left
                · intro W hW; obtain ⟨q1, q2⟩ := HQ.out W hW; obtain ⟨q3, q4, q5⟩ := HCX.out W hW; obtain ⟨q6, q7, q8⟩ := HCY.out W hW; go_simp; with_reducible rfl
                simp only [Act.put, List.setIfInBounds_toArray, List.set_cons_zero, List.set_cons_succ]
                refine take_in (i := 11) (oi := ⟨_, _, _, _, _, _⟩) (v := ?_) rfl (by kernel_rfl) (by kernel_rfl) (by kernel_rfl) (fun _ _ _ h => h) (by rfl) ?_ HB5.out ?_
                rotate_left
                · intro W hW; obtain ⟨q1, q2⟩ := HQ.out W hW; obtain ⟨q3, q4, q5⟩ := HCX.out W hW; obtain ⟨q6, q7, q8⟩ := HCY.out W hW; go_simp; with_reducible rfl
                simp only [Act.put, List.setIfInBounds_toArray, List.set_cons_zero, List.set_cons_succ]
                refine take_in (i := 12) (oi := ⟨_, _, _, _, _, _⟩) (v := ?_) rfl (by kernel_rfl) (by kernel_rfl) (by kernel_rfl) (fun _ _ _ h => h) (by rfl) ?_ HB5.out ?_
                rotate_left
                · intro W hW; obtain ⟨q1, q2⟩ := HQ.out W hW; obtain ⟨q3, q4, q5⟩ := HCX.out W hW; obtain ⟨q6, q7, q8⟩ := HCY.out W hW; go_simp; with_reducible rfl
                simp only [Act.put, List.setIfInBounds_toArray, List.set_cons_zero, List.set_cons_succ]
                refine take_in (i := 13) (oi := ⟨_, _, _, _, _, _⟩) (v := ?_) rfl (by kernel_rfl) (by kernel_rfl) (by kernel_rfl) (fun _ _ _ h => h) (by rfl) ?_ HB5.out ?_
                rotate_left
                · intro W hW; obtain ⟨q1, q2⟩ := HQ.out W hW; obtain ⟨q3, q4, q5⟩ := HCX.out W hW; obtain ⟨q6, q7, q8⟩ := HCY.out W hW; go_simp; with_reducible rfl
                simp only [Act.put, List.setIfInBounds_toArray, List.set_cons_zero, List.set_cons_succ]
                refine take_in (i := 14) (oi := ⟨_, _, _, _, _, _⟩) (v := ?_) rfl (by kernel_rfl) (by kernel_rfl) (by kernel_rfl) (fun _ _ _ h => h) (by rfl) ?_ HB5.out ?_
                rotate_left
                · intro W hW; obtain ⟨q1, q2⟩ := HQ.out W hW; obtain ⟨q3, q4, q5⟩ := HCX.out W hW; obtain ⟨q6, q7, q8⟩ := HCY.out W hW; go_simp; with_reducible rfl
                simp only [Act.put, List.setIfInBounds_toArray, List.set_cons_zero, List.set_cons_succ]
                refine take_in (i := 15) (oi := ⟨_, _, _, _, _, _⟩) (v := ?_) rfl (by kernel_rfl) (by kernel_rfl) (by kernel_rfl) (fun _ _ _ h => h) (by rfl) ?_ HB5.out ?_
                rotate_left
                · intro W hW; obtain ⟨q1, q2⟩ := HQ.out W hW; obtain ⟨q3, q4, q5⟩ := HCX.out W hW; obtain ⟨q6, q7, q8⟩ := HCY.out W hW; go_simp; with_reducible rfl
                simp only [Act.put, List.setIfInBounds_toArray, List.set_cons_zero, List.set_cons_succ]
                refine take_in (i := 16) (oi := ⟨_, _, _, _, _, _⟩) (v := ?_) rfl (by kernel_rfl) (by kernel_rfl) (by kernel_rfl) (fun _ _ _ h => h) (by rfl) ?_ HB5.out ?_
                rotate_left
                · intro W hW; obtain ⟨q1, q2⟩ := HQ.out W hW; obtain ⟨q3, q4, q5⟩ := HCX.out W hW; obtain ⟨q6, q7, q8⟩ := HCY.out W hW; go_simp; with_reducible rfl
                simp only [Act.put, List.setIfInBounds_toArray, List.set_cons_zero, List.set_cons_succ]
                refine take_in (i := 17) (oi := ⟨_, _, _, _, _, _⟩) (v := ?_) rfl (by kernel_rfl) (by kernel_rfl) (by kernel_rfl) (fun _ _ _ h => h) (by rfl) ?_ HB5.out ?_
                rotate_left
                · intro W hW; obtain ⟨q1, q2⟩ := HQ.out W hW; obtain ⟨q3, q4, q5⟩ := HCX.out W hW; obtain ⟨q6, q7, q8⟩ := HCY.out W hW; go_simp; with_reducible rfl
                simp only [Act.put, List.setIfInBounds_toArray, List.set_cons_zero, List.set_cons_succ]
                refine take_in (i := 18) (oi := ⟨_, _, _, _, _, _⟩) (v := ?_) rfl (by kernel_rfl) (by kernel_rfl) (by kernel_rfl) (fun _ _ _ h => h) (by rfl) ?_ HB5.out ?_
                rotate_left
                · intro W hW; obtain ⟨q1, q2⟩ := HQ.out W hW; obtain ⟨q3, q4, q5⟩ := HCX.out W hW; obtain ⟨q6, q7, q8⟩ := HCY.out W hW; go_simp; with_reducible rfl
                simp only [Act.put, List.setIfInBounds_toArray, List.set_cons_zero, List.set_cons_succ]
                refine take_in (i := 19) (oi := ⟨_, _, _, _, _, _⟩) (v := ?_) rfl (by kernel_rfl) (by kernel_rfl) (by kernel_rfl) (fun _ _ _ h => h) (by rfl) ?_ HB5.out ?_
                rotate_left
                · intro W hW; obtain ⟨q1, q2⟩ := HQ.out W hW; obtain ⟨q3, q4, q5⟩ := HCX.out W hW; obtain ⟨q6, q7, q8⟩ := HCY.out W hW; go_simp; with_reducible rfl
                simp only [Act.put, List.setIfInBounds_toArray, List.set_cons_zero, List.set_cons_succ]
                refine take_in (i := 20) (oi := ⟨_, _, _, _, _, _⟩) (v := ?_) rfl (by kernel_rfl) (by kernel_rfl) (by kernel_rfl) (fun _ _ _ h => h) (by rfl) ?_ HB5.out ?_
                rotate_left
                · intro W hW; obtain ⟨q1, q2⟩ := HQ.out W hW; obtain ⟨q3, q4, q5⟩ := HCX.out W hW; obtain ⟨q6, q7, q8⟩ := HCY.out W hW; go_simp; with_reducible rfl
                simp only [Act.put, List.setIfInBounds_toArray, List.set_cons_zero, List.set_cons_succ]
                refine take_in (i := 21) (oi := ⟨_, _, _, _, _, _⟩) (v := ?_) rfl (by kernel_rfl) (by kernel_rfl) (by kernel_rfl) (fun _ _ _ h => h) (by rfl) ?_ HB5.out ?_
                rotate_left
                · intro W hW; obtain ⟨q1, q2⟩ := HQ.out W hW; obtain ⟨q3, q4, q5⟩ := HCX.out W hW; obtain ⟨q6, q7, q8⟩ := HCY.out W hW; go_simp; with_reducible rfl
                simp only [Act.put, List.setIfInBounds_toArray, List.set_cons_zero, List.set_cons_succ]
                refine take_in (i := 22) (oi := ⟨_, _, _, _, _, _⟩) (v := ?_) rfl (by kernel_rfl) (by kernel_rfl) (by kernel_rfl) (fun _ _ _ h => h) (by rfl) ?_ HB5.out ?_
                rotate_left
                · intro W hW; obtain ⟨q1, q2⟩ := HQ.out W hW; obtain ⟨q3, q4, q5⟩ := HCX.out W hW; obtain ⟨q6, q7, q8⟩ := HCY.out W hW; go_simp; with_reducible rfl
                simp only [Act.put, List.setIfInBounds_toArray, List.set_cons_zero, List.set_cons_succ]
                refine take_in (i := 23) (oi := ⟨_, _, _, _, _, _⟩) (v := ?_) rfl (by kernel_rfl) (by kernel_rfl) (by kernel_rfl) (fun _ _ _ h => h) (by rfl) ?_ HB5.out ?_
                rotate_left
                · intro W hW; obtain ⟨q1, q2⟩ := HQ.out W hW; obtain ⟨q3, q4, q5⟩ := HCX.out W hW; obtain ⟨q6, q7, q8⟩ := HCY.out W hW; go_simp; with_reducible rfl
                simp only [Act.put, List.setIfInBounds_toArray, List.set_cons_zero, List.set_cons_succ]
                refine take_in (i := 24) (oi := ⟨_, _, _, _, _, _⟩) (v := ?_) rfl (by kernel_rfl) (by kernel_rfl) (by kernel_rfl) (fun _ _ _ h => h) (by rfl) ?_ HB5.out ?_
                rotate_left
                · intro W hW; obtain ⟨q1, q2⟩ := HQ.out W hW; obtain ⟨q3, q4, q5⟩ := HCX.out W hW; obtain ⟨q6, q7, q8⟩ := HCY.out W hW; go_simp; with_reducible rfl
                simp only [Act.put, List.setIfInBounds_toArray, List.set_cons_zero, List.set_cons_succ]
                refine take_in (i := 25) (oi := ⟨_, _, _, _, _, _⟩) (v := ?_) rfl (by kernel_rfl) (by kernel_rfl) (by kernel_rfl) (fun _ _ _ h => h) (by rfl) ?_ HB5.out ?_
                rotate_left
                · intro W hW; obtain ⟨q1, q2⟩ := HQ.out W hW; obtain ⟨q3, q4, q5⟩ := HCX.out W hW; obtain ⟨q6, q7, q8⟩ := HCY.out W hW; go_simp; with_reducible rfl
                simp only [Act.put, List.setIfInBounds_toArray, List.set_cons_zero, List.set_cons_succ]
                refine wpAnyH_ready (rs := [26]) (by kernel_rfl) (by simp) ?_
                refine AllReadyH.cons (o := ⟨_, _, _, _, _, _⟩) rfl (fun K hK => ?_) AllReadyH.nil
                go_simp
                refine (Clw.same_o _ _ _ X.2 _ _ _ Y.2 w5 (HQX.out.2.all (HB.out.trans (HB5.out.mono HB.out.size))) (HQY.out.2.all (HB.out.trans (HB5.out.mono HB.out.size)))).mono ?_
                rintro e w6 ⟨rfl, hb6⟩
                have HB6 := Lib.hid (HB5.out.trans (hb6.mono HB5.out.size)); clear hb6
                refine hK.out _ _ HB6.out (fun _ => ?_)
                clear hK K
                generalize sameC X.2 Y.2 = sv at HEQ ⊢
                refine take_in (i := 27) (oi := ⟨_, _, _, _, _, _⟩) (v := ?_) rfl (by kernel_rfl) (by kernel_rfl) (by kernel_rfl) (fun _ _ _ h => h) (by rfl) ?_ HB6.out ?_
                rotate_left
                · intro W hW; go_simp; with_reducible rfl
                simp only [Act.put, List.setIfInBounds_toArray, List.set_cons_zero, List.set_cons_succ]
                refine take_in (i := 28) (oi := ⟨_, _, _, _, _, _⟩) (v := ?_) rfl (by kernel_rfl) (by kernel_rfl) (by kernel_rfl) (fun _ _ _ h => h) (by rfl) ?_ HB6.out ?_
                rotate_left
                · intro W hW; go_simp; with_reducible rfl
                simp only [Act.put, List.setIfInBounds_toArray, List.set_cons_zero, List.set_cons_succ]
                refine wpAnyH_done (by kernel_rfl) ?_ _
                have HBW := Lib.hid (HB.out.trans (HB6.out.mono HB.out.size))
                have HXW := Lib.hid (HX.out.all HB6.out); have HYW := Lib.hid (HY.out.all HB6.out)
                cases sv with
                | false =>
                  have HSF := Lib.hid (HNO.out HEQ.out)
                  go_wp2
                  go_ret
                  refine ⟨?_, HBW.out⟩
                  rw [HSF.out]
                  rfl
                | true =>
                  have HFN : Hid (∀ (j : Nat) u v, j < k + 1 → s.cells[j]? = some u → t.cells[j]? = some v → eqC u v = true) := Lib.hid (fun j u v hj hu hv => by
                    rcases Nat.lt_or_ge j k with h' | h'
                    · exact HF.out j u v h' hu hv
                    · obtain rfl : j = k := by omega
                      rw [HZS.out] at hu
                      rw [HZT.out] at hv
                      cases hu; cases hv
                      exact HEQ.out)
                  go_wp2
                  exact ⟨⟨k + 1, by go_num, by omega, HFN.out, HXW.out, HYW.out, HBW.out⟩, by simp [intOf]; omega⟩
              · have hve : ((x.1.1 : Int) == (y.1.1 : Int) && (x.1.2 : Int) == (y.1.2 : Int)) = false := by
                  rw [← Bool.not_eq_true, Bool.and_eq_true, beq_iff_eq, beq_iff_eq]
                  intro he
                  exact hvq (Prod.ext (by omega) (by omega))
                have HSF := Lib.hid (HNO.out (by rw [HEQ.out, beq_eq_false_iff_ne.2 hvq]; rfl))
                clear hvq
                refine take_in (i := 0) (oi := ⟨_, _, _, _, _, _⟩) (v := ?_) rfl (by kernel_rfl) (by kernel_rfl) (by kernel_rfl) (fun _ _ _ h => h) (by rfl) ?_ HB5.out ?_
                rotate_left
                · intro W hW; obtain ⟨q1, q2⟩ := HQ.out W hW; obtain ⟨q3, q4, q5⟩ := HCX.out W hW; obtain ⟨q6, q7, q8⟩ := HCY.out W hW; go_simp; with_reducible rfl
                simp only [Act.put, List.setIfInBounds_toArray, List.set_cons_zero, List.set_cons_succ]
                refine take_in (i := 1) (oi := ⟨_, _, _, _, _, _⟩) (v := ?_) rfl (by kernel_rfl) (by kernel_rfl) (by kernel_rfl) (fun _ _ _ h => h) (by rfl) ?_ HB5.out ?_
                rotate_left
                · intro W hW; obtain ⟨q1, q2⟩ := HQ.out W hW; obtain ⟨q3, q4, q5⟩ := HCX.out W hW; obtain ⟨q6, q7, q8⟩ := HCY.out W hW; go_simp; with_reducible rfl
                simp only [Act.put, List.setIfInBounds_toArray, List.set_cons_zero, List.set_cons_succ]
                refine take_in (i := 2) (oi := ⟨_, _, _, _, _, _⟩) (v := ?_) rfl (by kernel_rfl) (by kernel_rfl) (by kernel_rfl) (fun _ _ _ h => h) (by rfl) ?_ HB5.out ?_
                rotate_left
                · intro W hW; obtain ⟨q1, q2⟩ := HQ.out W hW; obtain ⟨q3, q4, q5⟩ := HCX.out W hW; obtain ⟨q6, q7, q8⟩ := HCY.out W hW; go_simp; with_reducible rfl
                simp only [Act.put, List.setIfInBounds_toArray, List.set_cons_zero, List.set_cons_succ]
                refine take_in (i := 3) (oi := ⟨_, _, _, _, _, _⟩) (v := ?_) rfl (by kernel_rfl) (by kernel_rfl) (by kernel_rfl) (fun _ _ _ h => h) (by rfl) ?_ HB5.out ?_
                rotate_left
                · intro W hW; obtain ⟨q1, q2⟩ := HQ.out W hW; obtain ⟨q3, q4, q5⟩ := HCX.out W hW; obtain ⟨q6, q7, q8⟩ := HCY.out W hW; go_simp; with_reducible rfl
                simp only [Act.put, List.setIfInBounds_toArray, List.set_cons_zero, List.set_cons_succ]
                refine take_in (i := 4) (oi := ⟨_, _, _, _, _, _⟩) (v := ?_) rfl (by kernel_rfl) (by kernel_rfl) (by kernel_rfl) (fun _ _ _ h => h) (by rfl) ?_ HB5.out ?_
                rotate_left
                · intro W hW; obtain ⟨q1, q2⟩ := HQ.out W hW; obtain ⟨q3, q4, q5⟩ := HCX.out W hW; obtain ⟨q6, q7, q8⟩ := HCY.out W hW; go_simp; with_reducible rfl
                simp only [Act.put, List.setIfInBounds_toArray, List.set_cons_zero, List.set_cons_succ]
                refine take_in (i := 5) (oi := ⟨_, _, _, _, _, _⟩) (v := ?_) rfl (by kernel_rfl) (by kernel_rfl) (by kernel_rfl) (fun _ _ _ h => h) (by rfl) ?_ HB5.out ?_
                rotate_left
                · intro W hW; obtain ⟨q1, q2⟩ := HQ.out W hW; obtain ⟨q3, q4, q5⟩ := HCX.out W hW; obtain ⟨q6, q7, q8⟩ := HCY.out W hW; go_simp; with_reducible rfl
                simp only [Act.put, List.setIfInBounds_toArray, List.set_cons_zero, List.set_cons_succ]
                refine take_in (i := 6) (oi := ⟨_, _, _, _, _, _⟩) (v := ?_) rfl (by kernel_rfl) (by kernel_rfl) (by kernel_rfl) (fun _ _ _ h => h) (by rfl) ?_ HB5.out ?_
                rotate_left
                · intro W hW; obtain ⟨q1, q2⟩ := HQ.out W hW; obtain ⟨q3, q4, q5⟩ := HCX.out W hW; obtain ⟨q6, q7, q8⟩ := HCY.out W hW; go_simp; with_reducible rfl
                simp only [Act.put, List.setIfInBounds_toArray, List.set_cons_zero, List.set_cons_succ]
                refine take_in (i := 7) (oi := ⟨_, _, _, _, _, _⟩) (v := ?_) rfl (by kernel_rfl) (by kernel_rfl) (by kernel_rfl) (fun _ _ _ h => h) (by rfl) ?_ HB5.out ?_
                rotate_left
                · intro W hW; obtain ⟨q1, q2⟩ := HQ.out W hW; obtain ⟨q3, q4, q5⟩ := HCX.out W hW; obtain ⟨q6, q7, q8⟩ := HCY.out W hW; go_simp; with_reducible rfl
                simp only [Act.put, List.setIfInBounds_toArray, List.set_cons_zero, List.set_cons_succ]
                refine take_in (i := 8) (oi := ⟨_, _, _, _, _, _⟩) (v := ?_) rfl (by kernel_rfl) (by kernel_rfl) (by kernel_rfl) (fun _ _ _ h => h) (by rfl) ?_ HB5.out ?_
                rotate_left
                · intro W hW; obtain ⟨q1, q2⟩ := HQ.out W hW; obtain ⟨q3, q4, q5⟩ := HCX.out W hW; obtain ⟨q6, q7, q8⟩ := HCY.out W hW; go_simp; with_reducible rfl
                simp only [Act.put, List.setIfInBounds_toArray, List.set_cons_zero, List.set_cons_succ]
                refine take_in (i := 9) (oi := ⟨_, _, _, _, _, _⟩) (v := ?_) rfl (by kernel_rfl) (by kernel_rfl) (by kernel_rfl) (fun _ _ _ h => h) (by rfl) ?_ HB5.out ?_
                rotate_left
                · intro W hW; obtain ⟨q1, q2⟩ := HQ.out W hW; obtain ⟨q3, q4, q5⟩ := HCX.out W hW; obtain ⟨q6, q7, q8⟩ := HCY.out W hW; go_simp; with_reducible rfl
                simp only [Act.put, List.setIfInBounds_toArray, List.set_cons_zero, List.set_cons_succ]
                refine take_in (i := 10) (oi := ⟨_, _, _, _, _, _⟩) (v := ?_) rfl (by kernel_rfl) (by kernel_rfl) (by kernel_rfl) (fun _ _ _ h => h) (by rfl) ?_ HB5.out ?_
                rotate_left
                · intro W hW; obtain ⟨q1, q2⟩ := HQ.out W hW; obtain ⟨q3, q4, q5⟩ := HCX.out W hW; obtain ⟨q6, q7, q8⟩ := HCY.out W hW; go_simp; with_reducible rfl
                simp only [Act.put, List.setIfInBounds_toArray, List.set_cons_zero, List.set_cons_succ]
                refine take_in (i := 11) (oi := ⟨_, _, _, _, _, _⟩) (v := ?_) rfl (by kernel_rfl) (by kernel_rfl) (by kernel_rfl) (fun _ _ _ h => h) (by rfl) ?_ HB5.out ?_
                rotate_left
                · intro W hW; obtain ⟨q1, q2⟩ := HQ.out W hW; obtain ⟨q3, q4, q5⟩ := HCX.out W hW; obtain ⟨q6, q7, q8⟩ := HCY.out W hW; go_simp; with_reducible rfl
                simp only [Act.put, List.setIfInBounds_toArray, List.set_cons_zero, List.set_cons_succ]
                refine take_in (i := 12) (oi := ⟨_, _, _, _, _, _⟩) (v := ?_) rfl (by kernel_rfl) (by kernel_rfl) (by kernel_rfl) (fun _ _ _ h => h) (by rfl) ?_ HB5.out ?_
                rotate_left
                · intro W hW; obtain ⟨q1, q2⟩ := HQ.out W hW; obtain ⟨q3, q4, q5⟩ := HCX.out W hW; obtain ⟨q6, q7, q8⟩ := HCY.out W hW; go_simp; with_reducible rfl
                simp only [Act.put, List.setIfInBounds_toArray, List.set_cons_zero, List.set_cons_succ]
                refine take_in (i := 13) (oi := ⟨_, _, _, _, _, _⟩) (v := ?_) rfl (by kernel_rfl) (by kernel_rfl) (by kernel_rfl) (fun _ _ _ h => h) (by rfl) ?_ HB5.out ?_
                rotate_left
                · intro W hW; obtain ⟨q1, q2⟩ := HQ.out W hW; obtain ⟨q3, q4, q5⟩ := HCX.out W hW; obtain ⟨q6, q7, q8⟩ := HCY.out W hW; go_simp; with_reducible rfl
                simp only [Act.put, List.setIfInBounds_toArray, List.set_cons_zero, List.set_cons_succ]
                refine skip_in (i := 14) (oi := ⟨_, _, _, _, _, _⟩) rfl (by kernel_rfl) (by kernel_rfl) (by kernel_rfl) (fun _ _ _ h => h) (by rfl) HB5.out ?_
                simp only [Act.put, List.setIfInBounds_toArray, List.set_cons_zero, List.set_cons_succ]
                refine skip_in (i := 15) (oi := ⟨_, _, _, _, _, _⟩) rfl (by kernel_rfl) (by kernel_rfl) (by kernel_rfl) (fun _ _ _ h => h) (by rfl) HB5.out ?_
                simp only [Act.put, List.setIfInBounds_toArray, List.set_cons_zero, List.set_cons_succ]
                refine skip_in (i := 16) (oi := ⟨_, _, _, _, _, _⟩) rfl (by kernel_rfl) (by kernel_rfl) (by kernel_rfl) (fun _ _ _ h => h) (by rfl) HB5.out ?_
                simp only [Act.put, List.setIfInBounds_toArray, List.set_cons_zero, List.set_cons_succ]
                refine skip_in (i := 17) (oi := ⟨_, _, _, _, _, _⟩) rfl (by kernel_rfl) (by kernel_rfl) (by kernel_rfl) (fun _ _ _ h => h) (by rfl) HB5.out ?_
                simp only [Act.put, List.setIfInBounds_toArray, List.set_cons_zero, List.set_cons_succ]
                refine skip_in (i := 18) (oi := ⟨_, _, _, _, _, _⟩) rfl (by kernel_rfl) (by kernel_rfl) (by kernel_rfl) (fun _ _ _ h => h) (by rfl) HB5.out ?_
                simp only [Act.put, List.setIfInBounds_toArray, List.set_cons_zero, List.set_cons_succ]
                refine skip_in (i := 19) (oi := ⟨_, _, _, _, _, _⟩) rfl (by kernel_rfl) (by kernel_rfl) (by kernel_rfl) (fun _ _ _ h => h) (by rfl) HB5.out ?_
                simp only [Act.put, List.setIfInBounds_toArray, List.set_cons_zero, List.set_cons_succ]
                refine skip_in (i := 20) (oi := ⟨_, _, _, _, _, _⟩) rfl (by kernel_rfl) (by kernel_rfl) (by kernel_rfl) (fun _ _ _ h => h) (by rfl) HB5.out ?_
                simp only [Act.put, List.setIfInBounds_toArray, List.set_cons_zero, List.set_cons_succ]
                refine skip_in (i := 21) (oi := ⟨_, _, _, _, _, _⟩) rfl (by kernel_rfl) (by kernel_rfl) (by kernel_rfl) (fun _ _ _ h => h) (by rfl) HB5.out ?_
                simp only [Act.put, List.setIfInBounds_toArray, List.set_cons_zero, List.set_cons_succ]
                refine skip_in (i := 22) (oi := ⟨_, _, _, _, _, _⟩) rfl (by kernel_rfl) (by kernel_rfl) (by kernel_rfl) (fun _ _ _ h => h) (by rfl) HB5.out ?_
                simp only [Act.put, List.setIfInBounds_toArray, List.set_cons_zero, List.set_cons_succ]
                refine skip_in (i := 23) (oi := ⟨_, _, _, _, _, _⟩) rfl (by kernel_rfl) (by kernel_rfl) (by kernel_rfl) (fun _ _ _ h => h) (by rfl) HB5.out ?_
                simp only [Act.put, List.setIfInBounds_toArray, List.set_cons_zero, List.set_cons_succ]
                refine skip_in (i := 24) (oi := ⟨_, _, _, _, _, _⟩) rfl (by kernel_rfl) (by kernel_rfl) (by kernel_rfl) (fun _ _ _ h => h) (by rfl) HB5.out ?_
                simp only [Act.put, List.setIfInBounds_toArray, List.set_cons_zero, List.set_cons_succ]
                refine skip_in (i := 25) (oi := ⟨_, _, _, _, _, _⟩) rfl (by kernel_rfl) (by kernel_rfl) (by kernel_rfl) (fun _ _ _ h => h) (by rfl) HB5.out ?_
                simp only [Act.put, List.setIfInBounds_toArray, List.set_cons_zero, List.set_cons_succ]
                refine skip_in (i := 26) (oi := ⟨_, _, _, _, _, _⟩) rfl (by kernel_rfl) (by kernel_rfl) (by kernel_rfl) (fun _ _ _ h => h) (by rfl) HB5.out ?_
                simp only [Act.put, List.setIfInBounds_toArray, List.set_cons_zero, List.set_cons_succ]
                refine skip_in (i := 27) (oi := ⟨_, _, _, _, _, _⟩) rfl (by kernel_rfl) (by kernel_rfl) (by kernel_rfl) (fun _ _ _ h => h) (by rfl) HB5.out ?_
                simp only [Act.put, List.setIfInBounds_toArray, List.set_cons_zero, List.set_cons_succ]
                refine take_in (i := 28) (oi := ⟨_, _, _, _, _, _⟩) (v := ?_) rfl (by kernel_rfl) (by kernel_rfl) (by kernel_rfl) (fun _ _ _ h => h) (by rfl) ?_ HB5.out ?_
                rotate_left
                · intro W hW; go_simp; with_reducible rfl
                simp only [Act.put, List.setIfInBounds_toArray, List.set_cons_zero, List.set_cons_succ]
                refine wpAnyH_done (by kernel_rfl) ?_ _
                have HBW := Lib.hid (HB.out.trans (HB5.out.mono HB.out.size))
                go_wp2
                go_ret
                refine ⟨?_, HBW.out⟩
                rw [HSF.out]
                rfl
            · have hkn : k = c.n := by omega
              have HZ := Lib.hid (zip_true (f := eqC) HL.out.2.1 (fun j u v hu hv => HF.out j u v (by
                have := (List.getElem?_eq_some_iff.1 hu).1
                have := HNC.out
                omega) hu hv))
              have hj : ¬ ((k : Int) < (c.n : Int)) := by omega
              clear hkn h hk HF
              have HSM := Lib.hid (show sameS s t = zipA eqI s.ints t.ints from by rw [HSM.out, HZ.out, Bool.true_and])
              clear HZ
              go_upto_region 15 with (fail)
              obtain ⟨z0, z1, z2, z3, z4, z5, z6⟩ := HX.out.cs
              go_wp2
              go_loopw [129] (fun u wr => ∃ k : Nat, u = .int .i64 k ∧ k ≤ i.n ∧ (∀ (j : Nat) x y, j < k → s.ints[j]? = some x → t.ints[j]? = some y → eqI x y = true) ∧ Sx wr gs s b c i ∧ Sx wr gt t b2 c2 i2 ∧ Below w.heap.size w wr) (fun u _ => i.n - (intOf u).toNat)
              case atStart => exact ⟨0, rfl, by omega, by intro j x y h; omega, HX.out, HY.out, HB.out⟩
              case round =>
                clear HX HY HB z0 z1 z2 z3 z4 z5 z6
                rename World => wl
                obtain ⟨k, rfl, hk, hf, hx, hy, hb⟩ := hrel
                have HF := Lib.hid hf; have HX := Lib.hid hx; have HY := Lib.hid hy; have HB := Lib.hid hb
                clear hf hx hy hb
                by_cases h : k < i.n
                · have hl1 := HNI.out; have hl2 := HNI2.out; have hl5 := HL.out.2.2
                  have hls : k < s.ints.length := by omega
                  have hlt : k < t.ints.length := by omega
                  obtain ⟨g1, o1, hA, hgB, hc1⟩ := HI1.out (by omega)
                  obtain ⟨g2, o2, hA2, hgB2, hc2⟩ := HI2.out (by omega)
                  have hzs : s.ints[k]? = some s.ints[k] := List.getElem?_eq_getElem hls
                  have hzt : t.ints[k]? = some t.ints[k] := List.getElem?_eq_getElem hlt
                  have HZS := Lib.hid hzs; have HZT := Lib.hid hzt
                  have HCX : Hid (∀ W, Below wl.heap.size wl W → W.cell? ⟨g1, o1 + k * 4, none⟩ = some (.int .i64 (s.ints[k].1.1 : Int)) ∧ W.cell? ⟨g1, o1 + k * 4 + 1, none⟩ = some (.int .i64 (s.ints[k].1.2 : Int)) ∧ W.cell? ⟨g1, o1 + k * 4 + 2, none⟩ = some (.int .i64 (s.ints[k].2.1 : Int)) ∧ W.cell? ⟨g1, o1 + k * 4 + 3, none⟩ = some (.int .i64 (s.ints[k].2.2 : Int))) := Lib.hid (fun W hW => by
                    have hT := HB.out.trans (hW.mono HB.out.size)
                    exact ⟨(hT.cell (p := ⟨g1, o1 + k * 4, none⟩) hgB).trans (hc1 k _ hzs 0 _ rfl), (hT.cell (p := ⟨g1, o1 + k * 4 + 1, none⟩) hgB).trans (hc1 k _ hzs 1 _ rfl), (hT.cell (p := ⟨g1, o1 + k * 4 + 2, none⟩) hgB).trans (hc1 k _ hzs 2 _ rfl), (hT.cell (p := ⟨g1, o1 + k * 4 + 3, none⟩) hgB).trans (hc1 k _ hzs 3 _ rfl)⟩)
                  have HCY : Hid (∀ W, Below wl.heap.size wl W → W.cell? ⟨g2, o2 + k * 4, none⟩ = some (.int .i64 (t.ints[k].1.1 : Int)) ∧ W.cell? ⟨g2, o2 + k * 4 + 1, none⟩ = some (.int .i64 (t.ints[k].1.2 : Int)) ∧ W.cell? ⟨g2, o2 + k * 4 + 2, none⟩ = some (.int .i64 (t.ints[k].2.1 : Int)) ∧ W.cell? ⟨g2, o2 + k * 4 + 3, none⟩ = some (.int .i64 (t.ints[k].2.2 : Int))) := Lib.hid (fun W hW => by
                    have hT := HB.out.trans (hW.mono HB.out.size)
                    exact ⟨(hT.cell (p := ⟨g2, o2 + k * 4, none⟩) hgB2).trans (hc2 k _ hzt 0 _ rfl), (hT.cell (p := ⟨g2, o2 + k * 4 + 1, none⟩) hgB2).trans (hc2 k _ hzt 1 _ rfl), (hT.cell (p := ⟨g2, o2 + k * 4 + 2, none⟩) hgB2).trans (hc2 k _ hzt 2 _ rfl), (hT.cell (p := ⟨g2, o2 + k * 4 + 3, none⟩) hgB2).trans (hc2 k _ hzt 3 _ rfl)⟩)
                  have HQ : Hid (∀ W, Below wl.heap.size wl W → W.cell? ⟨gs, 2, none⟩ = some (.slice (some ⟨g1, o1, none⟩) i.n i.c) ∧ W.cell? ⟨gt, 2, none⟩ = some (.slice (some ⟨g2, o2, none⟩) i2.n i2.c)) := Lib.hid (fun W hW => by
                    have a1 := (HX.out.all hW).cs.2.2.1
                    have a2 := (HY.out.all hW).cs.2.2.1
                    rw [hA] at a1
                    rw [hA2] at a2
                    exact ⟨a1, a2⟩)
                  have hk2 : k < i2.n := by omega
                  generalize s.ints[k] = x at HZS HCX
                  generalize t.ints[k] = y at HZT HCY
                  clear hl1 hl2 hl5 hls hlt hA hA2 hgB hgB2 hc1 hc2 hzs hzt
                  go_upto_region 18 with (fail)
                  have hi1 : (k : Int) < (i.n : Int) := by omega
                  have hi2 : (k : Int) < (i2.n : Int) := by omega
                  have hw1 : IntKind.i64.wrap (k : Int) = (k : Int) := by simp [IntKind.wrap, IntKind.bits, IntKind.signed]; omega
                  refine wp_region_held_drew (S := fun W' => Below wl.heap.size wl W') (by kernel_rfl) (Below.refl _ _).drew (fun hHeld => ?_)
                  generalize wl.drew = w5 at hHeld ⊢
                  have HB5 : Hid (Below wl.heap.size wl w5) := hHeld
                  clear hHeld
                  have HVE : Hid ((((x.1.1 : Int) == (y.1.1 : Int) && (x.1.2 : Int) == (y.1.2 : Int)) && ((x.2.1 : Int) == (y.2.1 : Int) && (x.2.2 : Int) == (y.2.2 : Int))) = eqI x y) := Lib.hid (by
                    unfold eqI
                    rw [pair_dec, pair_dec, Bool.eq_iff_iff]
                    simp only [Bool.and_eq_true, beq_iff_eq, decide_eq_true_iff])
                  have HBW := Lib.hid (HB.out.trans (HB5.out.mono HB.out.size))
                  have HXW := Lib.hid (HX.out.all HB5.out); have HYW := Lib.hid (HY.out.all HB5.out)
                  by_cases hvq : eqI x y = true
                  · have hve : (((x.1.1 : Int) == (y.1.1 : Int) && (x.1.2 : Int) == (y.1.2 : Int)) && ((x.2.1 : Int) == (y.2.1 : Int) && (x.2.2 : Int) == (y.2.2 : Int))) = true := by rw [HVE.out, hvq]
                    have HFN : Hid (∀ (j : Nat) u v, j < k + 1 → s.ints[j]? = some u → t.ints[j]? = some v → eqI u v = true) := Lib.hid (fun j u v hj hu hv => by
                      rcases Nat.lt_or_ge j k with h' | h'
                      · exact HF.out j u v h' hu hv
                      · obtain rfl : j = k := by omega
                        rw [HZS.out] at hu
                        rw [HZT.out] at hv
                        cases hu; cases hv
                        exact hvq)
                    clear hvq
                    refine take_in (i := 0) (oi := ⟨_, _, _, _, _, _⟩) (v := ?_) rfl (by kernel_rfl) (by kernel_rfl) (by kernel_rfl) (fun _ _ _ h => h) (by rfl) ?_ HB5.out ?_
                    rotate_left
                    · intro W hW; obtain ⟨q1, q2⟩ := HQ.out W hW; obtain ⟨q3, q4, q5, q6⟩ := HCX.out W hW; obtain ⟨q7, q8, q9, q10⟩ := HCY.out W hW; go_simp; with_reducible rfl
                    simp only [Act.put, List.setIfInBounds_toArray, List.set_cons_zero, List.set_cons_succ]
                    refine take_in (i := 1) (oi := ⟨_, _, _, _, _, _⟩) (v := ?_) rfl (by kernel_rfl) (by kernel_rfl) (by kernel_rfl) (fun _ _ _ h => h) (by rfl) ?_ HB5.out ?_
                    rotate_left
                    · intro W hW; obtain ⟨q1, q2⟩ := HQ.out W hW; obtain ⟨q3, q4, q5, q6⟩ := HCX.out W hW; obtain ⟨q7, q8, q9, q10⟩ := HCY.out W hW; go_simp; with_reducible rfl
                    simp only [Act.put, List.setIfInBounds_toArray, List.set_cons_zero, List.set_cons_succ]
                    refine take_in (i := 2) (oi := ⟨_, _, _, _, _, _⟩) (v := ?_) rfl (by kernel_rfl) (by kernel_rfl) (by kernel_rfl) (fun _ _ _ h => h) (by rfl) ?_ HB5.out ?_
                    rotate_left
                    · intro W hW; obtain ⟨q1, q2⟩ := HQ.out W hW; obtain ⟨q3, q4, q5, q6⟩ := HCX.out W hW; obtain ⟨q7, q8, q9, q10⟩ := HCY.out W hW; go_simp; with_reducible rfl
                    simp only [Act.put, List.setIfInBounds_toArray, List.set_cons_zero, List.set_cons_succ]
                    refine take_in (i := 3) (oi := ⟨_, _, _, _, _, _⟩) (v := ?_) rfl (by kernel_rfl) (by kernel_rfl) (by kernel_rfl) (fun _ _ _ h => h) (by rfl) ?_ HB5.out ?_
                    rotate_left
                    · intro W hW; obtain ⟨q1, q2⟩ := HQ.out W hW; obtain ⟨q3, q4, q5, q6⟩ := HCX.out W hW; obtain ⟨q7, q8, q9, q10⟩ := HCY.out W hW; go_simp; with_reducible rfl
                    simp only [Act.put, List.setIfInBounds_toArray, List.set_cons_zero, List.set_cons_succ]
                    refine take_in (i := 4) (oi := ⟨_, _, _, _, _, _⟩) (v := ?_) rfl (by kernel_rfl) (by kernel_rfl) (by kernel_rfl) (fun _ _ _ h => h) (by rfl) ?_ HB5.out ?_
                    rotate_left
                    · intro W hW; obtain ⟨q1, q2⟩ := HQ.out W hW; obtain ⟨q3, q4, q5, q6⟩ := HCX.out W hW; obtain ⟨q7, q8, q9, q10⟩ := HCY.out W hW; go_simp; with_reducible rfl
                    simp only [Act.put, List.setIfInBounds_toArray, List.set_cons_zero, List.set_cons_succ]
                    refine take_in (i := 5) (oi := ⟨_, _, _, _, _, _⟩) (v := ?_) rfl (by kernel_rfl) (by kernel_rfl) (by kernel_rfl) (fun _ _ _ h => h) (by rfl) ?_ HB5.out ?_
                    rotate_left
                    · intro W hW; obtain ⟨q1, q2⟩ := HQ.out W hW; obtain ⟨q3, q4, q5, q6⟩ := HCX.out W hW; obtain ⟨q7, q8, q9, q10⟩ := HCY.out W hW; go_simp; with_reducible rfl
                    simp only [Act.put, List.setIfInBounds_toArray, List.set_cons_zero, List.set_cons_succ]
                    refine take_in (i := 6) (oi := ⟨_, _, _, _, _, _⟩) (v := ?_) rfl (by kernel_rfl) (by kernel_rfl) (by kernel_rfl) (fun _ _ _ h => h) (by rfl) ?_ HB5.out ?_
                    rotate_left
                    · intro W hW; obtain ⟨q1, q2⟩ := HQ.out W hW; obtain ⟨q3, q4, q5, q6⟩ := HCX.out W hW; obtain ⟨q7, q8, q9, q10⟩ := HCY.out W hW; go_simp; with_reducible rfl
                    simp only [Act.put, List.setIfInBounds_toArray, List.set_cons_zero, List.set_cons_succ]
                    refine take_in (i := 7) (oi := ⟨_, _, _, _, _, _⟩) (v := ?_) rfl (by kernel_rfl) (by kernel_rfl) (by kernel_rfl) (fun _ _ _ h => h) (by rfl) ?_ HB5.out ?_
                    rotate_left
                    · intro W hW; obtain ⟨q1, q2⟩ := HQ.out W hW; obtain ⟨q3, q4, q5, q6⟩ := HCX.out W hW; obtain ⟨q7, q8, q9, q10⟩ := HCY.out W hW; go_simp; with_reducible rfl
                    simp only [Act.put, List.setIfInBounds_toArray, List.set_cons_zero, List.set_cons_succ]
                    refine take_in (i := 8) (oi := ⟨_, _, _, _, _, _⟩) (v := ?_) rfl (by kernel_rfl) (by kernel_rfl) (by kernel_rfl) (fun _ _ _ h => h) (by rfl) ?_ HB5.out ?_
                    rotate_left
                    · intro W hW; obtain ⟨q1, q2⟩ := HQ.out W hW; obtain ⟨q3, q4, q5, q6⟩ := HCX.out W hW; obtain ⟨q7, q8, q9, q10⟩ := HCY.out W hW; go_simp; with_reducible rfl
                    simp only [Act.put, List.setIfInBounds_toArray, List.set_cons_zero, List.set_cons_succ]
                    refine take_in (i := 9) (oi := ⟨_, _, _, _, _, _⟩) (v := ?_) rfl (by kernel_rfl) (by kernel_rfl) (by kernel_rfl) (fun _ _ _ h => h) (by rfl) ?_ HB5.out ?_
                    rotate_left
                    · intro W hW; obtain ⟨q1, q2⟩ := HQ.out W hW; obtain ⟨q3, q4, q5, q6⟩ := HCX.out W hW; obtain ⟨q7, q8, q9, q10⟩ := HCY.out W hW; go_simp; with_reducible rfl
                    simp only [Act.put, List.setIfInBounds_toArray, List.set_cons_zero, List.set_cons_succ]
                    refine take_in (i := 10) (oi := ⟨_, _, _, _, _, _⟩) (v := ?_) rfl (by kernel_rfl) (by kernel_rfl) (by kernel_rfl) (fun _ _ _ h => h) (by rfl) ?_ HB5.out ?_
                    rotate_left
                    · intro W hW; obtain ⟨q1, q2⟩ := HQ.out W hW; obtain ⟨q3, q4, q5, q6⟩ := HCX.out W hW; obtain ⟨q7, q8, q9, q10⟩ := HCY.out W hW; go_simp; with_reducible rfl
                    simp only [Act.put, List.setIfInBounds_toArray, List.set_cons_zero, List.set_cons_succ]
                    refine wpAnyH_done (by kernel_rfl) ?_ _
                    go_wp2
                    exact ⟨⟨k + 1, by go_num, by omega, HFN.out, HXW.out, HYW.out, HBW.out⟩, by simp [intOf]; omega⟩
                  · have hvq : eqI x y = false := by rwa [Bool.not_eq_true] at hvq
                    have hve : (((x.1.1 : Int) == (y.1.1 : Int) && (x.1.2 : Int) == (y.1.2 : Int)) && ((x.2.1 : Int) == (y.2.1 : Int) && (x.2.2 : Int) == (y.2.2 : Int))) = false := by rw [HVE.out, hvq]
                    have HSF := Lib.hid (show sameS s t = false from by rw [HSM.out, zip_false k HZS.out HZT.out hvq])
                    clear hvq
                    refine take_in (i := 0) (oi := ⟨_, _, _, _, _, _⟩) (v := ?_) rfl (by kernel_rfl) (by kernel_rfl) (by kernel_rfl) (fun _ _ _ h => h) (by rfl) ?_ HB5.out ?_
                    rotate_left
                    · intro W hW; obtain ⟨q1, q2⟩ := HQ.out W hW; obtain ⟨q3, q4, q5, q6⟩ := HCX.out W hW; obtain ⟨q7, q8, q9, q10⟩ := HCY.out W hW; go_simp; with_reducible rfl
                    simp only [Act.put, List.setIfInBounds_toArray, List.set_cons_zero, List.set_cons_succ]
                    refine take_in (i := 1) (oi := ⟨_, _, _, _, _, _⟩) (v := ?_) rfl (by kernel_rfl) (by kernel_rfl) (by kernel_rfl) (fun _ _ _ h => h) (by rfl) ?_ HB5.out ?_
                    rotate_left
                    · intro W hW; obtain ⟨q1, q2⟩ := HQ.out W hW; obtain ⟨q3, q4, q5, q6⟩ := HCX.out W hW; obtain ⟨q7, q8, q9, q10⟩ := HCY.out W hW; go_simp; with_reducible rfl
                    simp only [Act.put, List.setIfInBounds_toArray, List.set_cons_zero, List.set_cons_succ]
                    refine take_in (i := 2) (oi := ⟨_, _, _, _, _, _⟩) (v := ?_) rfl (by kernel_rfl) (by kernel_rfl) (by kernel_rfl) (fun _ _ _ h => h) (by rfl) ?_ HB5.out ?_
                    rotate_left
                    · intro W hW; obtain ⟨q1, q2⟩ := HQ.out W hW; obtain ⟨q3, q4, q5, q6⟩ := HCX.out W hW; obtain ⟨q7, q8, q9, q10⟩ := HCY.out W hW; go_simp; with_reducible rfl
                    simp only [Act.put, List.setIfInBounds_toArray, List.set_cons_zero, List.set_cons_succ]
                    refine take_in (i := 3) (oi := ⟨_, _, _, _, _, _⟩) (v := ?_) rfl (by kernel_rfl) (by kernel_rfl) (by kernel_rfl) (fun _ _ _ h => h) (by rfl) ?_ HB5.out ?_
                    rotate_left
                    · intro W hW; obtain ⟨q1, q2⟩ := HQ.out W hW; obtain ⟨q3, q4, q5, q6⟩ := HCX.out W hW; obtain ⟨q7, q8, q9, q10⟩ := HCY.out W hW; go_simp; with_reducible rfl
                    simp only [Act.put, List.setIfInBounds_toArray, List.set_cons_zero, List.set_cons_succ]
                    refine take_in (i := 4) (oi := ⟨_, _, _, _, _, _⟩) (v := ?_) rfl (by kernel_rfl) (by kernel_rfl) (by kernel_rfl) (fun _ _ _ h => h) (by rfl) ?_ HB5.out ?_
                    rotate_left
                    · intro W hW; obtain ⟨q1, q2⟩ := HQ.out W hW; obtain ⟨q3, q4, q5, q6⟩ := HCX.out W hW; obtain ⟨q7, q8, q9, q10⟩ := HCY.out W hW; go_simp; with_reducible rfl
                    simp only [Act.put, List.setIfInBounds_toArray, List.set_cons_zero, List.set_cons_succ]
                    refine take_in (i := 5) (oi := ⟨_, _, _, _, _, _⟩) (v := ?_) rfl (by kernel_rfl) (by kernel_rfl) (by kernel_rfl) (fun _ _ _ h => h) (by rfl) ?_ HB5.out ?_
                    rotate_left
                    · intro W hW; obtain ⟨q1, q2⟩ := HQ.out W hW; obtain ⟨q3, q4, q5, q6⟩ := HCX.out W hW; obtain ⟨q7, q8, q9, q10⟩ := HCY.out W hW; go_simp; with_reducible rfl
                    simp only [Act.put, List.setIfInBounds_toArray, List.set_cons_zero, List.set_cons_succ]
                    refine take_in (i := 6) (oi := ⟨_, _, _, _, _, _⟩) (v := ?_) rfl (by kernel_rfl) (by kernel_rfl) (by kernel_rfl) (fun _ _ _ h => h) (by rfl) ?_ HB5.out ?_
                    rotate_left
                    · intro W hW; obtain ⟨q1, q2⟩ := HQ.out W hW; obtain ⟨q3, q4, q5, q6⟩ := HCX.out W hW; obtain ⟨q7, q8, q9, q10⟩ := HCY.out W hW; go_simp; with_reducible rfl
                    simp only [Act.put, List.setIfInBounds_toArray, List.set_cons_zero, List.set_cons_succ]
                    refine take_in (i := 7) (oi := ⟨_, _, _, _, _, _⟩) (v := ?_) rfl (by kernel_rfl) (by kernel_rfl) (by kernel_rfl) (fun _ _ _ h => h) (by rfl) ?_ HB5.out ?_
                    rotate_left
                    · intro W hW; obtain ⟨q1, q2⟩ := HQ.out W hW; obtain ⟨q3, q4, q5, q6⟩ := HCX.out W hW; obtain ⟨q7, q8, q9, q10⟩ := HCY.out W hW; go_simp; with_reducible rfl
                    simp only [Act.put, List.setIfInBounds_toArray, List.set_cons_zero, List.set_cons_succ]
                    refine take_in (i := 8) (oi := ⟨_, _, _, _, _, _⟩) (v := ?_) rfl (by kernel_rfl) (by kernel_rfl) (by kernel_rfl) (fun _ _ _ h => h) (by rfl) ?_ HB5.out ?_
                    rotate_left
                    · intro W hW; obtain ⟨q1, q2⟩ := HQ.out W hW; obtain ⟨q3, q4, q5, q6⟩ := HCX.out W hW; obtain ⟨q7, q8, q9, q10⟩ := HCY.out W hW; go_simp; with_reducible rfl
                    simp only [Act.put, List.setIfInBounds_toArray, List.set_cons_zero, List.set_cons_succ]
                    refine take_in (i := 9) (oi := ⟨_, _, _, _, _, _⟩) (v := ?_) rfl (by kernel_rfl) (by kernel_rfl) (by kernel_rfl) (fun _ _ _ h => h) (by rfl) ?_ HB5.out ?_
                    rotate_left
                    · intro W hW; obtain ⟨q1, q2⟩ := HQ.out W hW; obtain ⟨q3, q4, q5, q6⟩ := HCX.out W hW; obtain ⟨q7, q8, q9, q10⟩ := HCY.out W hW; go_simp; with_reducible rfl
                    simp only [Act.put, List.setIfInBounds_toArray, List.set_cons_zero, List.set_cons_succ]
                    refine take_in (i := 10) (oi := ⟨_, _, _, _, _, _⟩) (v := ?_) rfl (by kernel_rfl) (by kernel_rfl) (by kernel_rfl) (fun _ _ _ h => h) (by rfl) ?_ HB5.out ?_
                    rotate_left
                    · intro W hW; obtain ⟨q1, q2⟩ := HQ.out W hW; obtain ⟨q3, q4, q5, q6⟩ := HCX.out W hW; obtain ⟨q7, q8, q9, q10⟩ := HCY.out W hW; go_simp; with_reducible rfl
                    simp only [Act.put, List.setIfInBounds_toArray, List.set_cons_zero, List.set_cons_succ]
                    refine wpAnyH_done (by kernel_rfl) ?_ _
                    go_wp2
                    go_ret
                    refine ⟨?_, HBW.out⟩
                    rw [HSF.out]
                    rfl
                · have hkn : k = i.n := by omega
                  have HZ := Lib.hid (zip_true (f := eqI) HL.out.2.2 (fun j u v hu hv => HF.out j u v (by
                    have := (List.getElem?_eq_some_iff.1 hu).1
                    have := HNI.out
                    omega) hu hv))
                  have hj : ¬ ((k : Int) < (i.n : Int)) := by omega
                  have HSF := Lib.hid (show sameS s t = true from by rw [HSM.out, HZ.out])
                  clear hkn h hk HF
                  go_wp2
                  go_ret
                  refine ⟨?_, HB.out⟩
                  rw [HSF.out]
                  rfl
end Go.Proofs.YtfblnomkafimhaaGreat.Fow
