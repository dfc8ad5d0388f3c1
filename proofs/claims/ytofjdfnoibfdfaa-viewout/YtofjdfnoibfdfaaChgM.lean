/- What the document's Minus and Within of layer 4 answer: contracts by walks. -/
import Derived.Test.YtofjdfnoibfdfaaChgS
import Derived.Laws.StructEq
namespace Go.Proofs.Ytofjdfnoibfdfaa
open Go.RowKit
open Chg

/-- six cells of an array, in a block of its own -/
def cells6 (f : Nat → Bool) : Array Value := #[.bool (f 0), .bool (f 1), .bool (f 2), .bool (f 3), .bool (f 4), .bool (f 5)]
def Bx (w : World) (g : Nat) (f : Nat → Bool) : Prop := w.heap[g]? = some (.cells (cells6 f) 68)
theorem Bx.cell {w : World} {g : Nat} {f : Nat → Bool} (h : Bx w g f) (k : Nat) (hk : k < 6) : w.cell? ⟨g, k, none⟩ = some (.bool (f k)) := by
  rw [cell_of_row _ _ _ _ _ _ h]
  obtain rfl | rfl | rfl | rfl | rfl | rfl : k = 0 ∨ k = 1 ∨ k = 2 ∨ k = 3 ∨ k = 4 ∨ k = 5 := by omega
  all_goals rfl
theorem Bx.frozen {w : World} {g : Nat} {f : Nat → Bool} (h : Bx w g f) (k : Nat) : w.frozen? ⟨g, k, none⟩ = false := frozen_of_row w g k _ _ h
theorem Bx.below {w w' : World} {g B : Nat} {f : Nat → Bool} (h : Bx w g f) (hb : Below B w w') (hg : g < B) : Bx w' g f := (hb.block g hg).trans h
theorem Bx.other {w : World} {g : Nat} {f : Nat → Bool} (h : Bx w g f) {p : Addr} (hp : g ≠ p.block) (u : Value) : Bx (w.setCell p u) g f := (Below.heap_setCell w p u g hp).trans h
theorem Bx.set {w : World} {g : Nat} {f : Nat → Bool} (h : Bx w g f) (k : Nat) (hk : k < 6) (v : Bool) : Bx (w.setCell ⟨g, k, none⟩ (.bool v)) g (fun i => if i = k then v else f i) := by
  unfold Bx
  rw [heap_setCell_same w g k _ _ _ h]
  obtain rfl | rfl | rfl | rfl | rfl | rfl : k = 0 ∨ k = 1 ∨ k = 2 ∨ k = 3 ∨ k = 4 ∨ k = 5 := by omega
  all_goals rfl
theorem Bx.lt {w : World} {g : Nat} {f : Nat → Bool} (h : Bx w g f) : g < w.heap.size := by
  rcases Nat.lt_or_ge g w.heap.size with h' | h'
  · exact h'
  · unfold Bx at h; rw [Array.getElem?_eq_none h'] at h; cases h
theorem Bx.congr {w : World} {g : Nat} {f f' : Nat → Bool} (h : Bx w g f) (e : ∀ i, i < 6 → f i = f' i) : Bx w g f' := by
  unfold Bx cells6 at *
  rw [h, e 0 (by omega), e 1 (by omega), e 2 (by omega), e 3 (by omega), e 4 (by omega), e 5 (by omega)]
theorem Vx.other {w : World} {g a d : Nat} (h : Vx w g a d) {p : Addr} (hp : g ≠ p.block) (u : Value) : Vx (w.setCell p u) g a d := (Below.heap_setCell w p u g hp).trans h
theorem Vx.lt {w : World} {g a d : Nat} (h : Vx w g a d) : g < w.heap.size := by
  rcases Nat.lt_or_ge g w.heap.size with h' | h'
  · exact h'
  · unfold Vx at h; rw [Array.getElem?_eq_none h'] at h; cases h

theorem Vx.put {w : World} {g a d : Nat} (h : Vx w g a d) (a' d' : Nat) : Vx ((w.setCell ⟨g, 0, none⟩ (.int .i64 (a' : Int))).setCell ⟨g, 1, none⟩ (.int .i64 (d' : Int))) g a' d' := by
  unfold Vx
  rw [heap_setCell_same _ g 1 _ _ _ (heap_setCell_same w g 0 _ _ _ h)]
  rfl
theorem results_view {fn : Func} {t : Tmp} (h : fn.results = #[.cell t 25]) {tmps : Array Value} {w : World} {g a d : Nat} (hp : tmps.getD t undef = .pointer (some ⟨g, 0, none⟩)) (hv : Vx w g a d) : (results fn tmps).run Try.prog w = .ok (vw a d) w := by
  have h0 := hv.c0
  have h1 := hv.c1
  have u3 := Try.sizeOf25
  have hp' : tmps[t]?.getD undef = .pointer (some ⟨g, 0, none⟩) := by rw [← hp, Array.getD_eq_getD_getElem?]
  unfold results vw
  simp only [h]
  simp [hp', go_sem, h0, h1]
theorem results_view2 {fn : Func} {t u : Tmp} (h : fn.results = #[.cell t 25, .tmp u]) {tmps : Array Value} {w : World} {g a d : Nat} {x : Value} (hp : tmps.getD t undef = .pointer (some ⟨g, 0, none⟩)) (hx : tmps.getD u undef = x) (hv : Vx w g a d) : (results fn tmps).run Try.prog w = .ok (.tuple #[vw a d, x]) w := by
  have h0 := hv.c0
  have h1 := hv.c1
  have u3 := Try.sizeOf25
  have hp' : tmps[t]?.getD undef = .pointer (some ⟨g, 0, none⟩) := by rw [← hp, Array.getD_eq_getD_getElem?]
  have hx' : tmps[u]?.getD undef = x := by rw [← hx, Array.getD_eq_getD_getElem?]
  unfold results vw
  simp only [h]
  simp [hp', hx', go_sem, h0, h1]
theorem hat (w : World) (o : Obj) (g : Nat) (hg : g = w.heap.size) : (w.alloc o).heap[g]? = some o := by
  subst hg
  exact heap_alloc_new w o
theorem hbe {w : World} {o x : Obj} {g : Nat} (h : w.heap[g]? = some x) : (w.alloc o).heap[g]? = some x := by
  rw [Below.heap_alloc w o g ?_]
  · exact h
  · rcases Nat.lt_or_ge g w.heap.size with h' | h'
    · exact h'
    · rw [Array.getElem?_eq_none h'] at h; cases h

theorem minus_r (a d : Nat) (ha : a < 64) (hd : d < 64) (b c : Nat) (hb : b < 64) (hc : c < 64) (w : World) : Calls Try.prog 45 #[vw a d, vw b c] w fun e w' => e = .returned (vw (minus a b) (minus d c)) ∧ Below w.heap.size w w' := by
  unfold vw
  go_enter Try.func45, Try.ntmps45
  go_wp2
  go_loopw [7] (fun i wr => ∃ k : Nat, i = .int .i64 k ∧ k ≤ 6 ∧ Vx wr w.heap.size a d ∧ Vx wr (w.heap.size + 1) b c ∧ Vx wr (w.heap.size + 1 + 1) 0 0 ∧ Bx wr (w.heap.size + 1 + 1 + 1) (fun i => decide (i < k) && (a.testBit i && !b.testBit i)) ∧ Bx wr (w.heap.size + 1 + 1 + 1 + 1) (fun i => decide (i < k) && (d.testBit i && !c.testBit i)) ∧ Below w.heap.size w wr) (fun i _ => 6 - (intOf i).toNat)
  case atStart =>
    refine ⟨0, rfl, by omega, ?_, ?_, ?_, ?_, ?_, bal (bal (bal (bal (bal (Below.refl _ _) (Nat.le_refl _) _) (Nat.le_refl _) _) (Nat.le_refl _) _) (Nat.le_refl _) _) (Nat.le_refl _) _⟩
    · exact hbe (hbe (hbe (hbe (hat _ _ _ rfl))))
    · exact hbe (hbe (hbe (hat _ _ _ (by simp))))
    · exact hbe (hbe (hat _ _ _ (by simp)))
    · exact hbe (hat _ _ _ (by simp))
    · exact hat _ _ _ (by simp)
  case round =>
    obtain ⟨k, rfl, hk, hv1, hv2, hv3, hx, hy, hbl⟩ := hrel
    have hlt := hy.lt
    have H1 := Lib.hid hv1; have H2 := Lib.hid hv2; have H3 := Lib.hid hv3; have H4 := Lib.hid hx; have H5 := Lib.hid hy; have HB := Lib.hid hbl
    clear hv1 hv2 hv3 hx hy hbl
    by_cases h : k < 6
    · have e0 := H1.out.c0
      have e1 := H1.out.c1
      go_wp2_with fail
      refine (has_r a d ha hd k (by omega) _).mono ?_
      rintro e w2 ⟨rfl, hb2⟩
      have H1 := Lib.hid (H1.out.below hb2 (by omega)); have H2 := Lib.hid (H2.out.below hb2 (by omega)); have H3 := Lib.hid (H3.out.below hb2 (by omega)); have H4 := Lib.hid (H4.out.below hb2 (by omega)); have H5 := Lib.hid (H5.out.below hb2 hlt)
      have HB := Lib.hid (HB.out.trans (hb2.mono (by omega)))
      have hlt := Nat.lt_of_lt_of_le hlt hb2.size
      clear hb2 e0 e1
      have e0 := H2.out.c0
      have e1 := H2.out.c1
      go_wp2_with fail
      refine (has_r b c hb hc k (by omega) _).mono ?_
      rintro e w3 ⟨rfl, hb3⟩
      have H1 := Lib.hid (H1.out.below hb3 (by omega)); have H2 := Lib.hid (H2.out.below hb3 (by omega)); have H3 := Lib.hid (H3.out.below hb3 (by omega)); have H4 := Lib.hid (H4.out.below hb3 (by omega)); have H5 := Lib.hid (H5.out.below hb3 hlt)
      have HB := Lib.hid (HB.out.trans (hb3.mono (by omega)))
      clear hb3 e0 e1
      have x0 := H4.out.cell k h
      have x1 := H4.out.frozen k
      have y0 := H5.out.cell k h
      have y1 := H5.out.frozen k
      have HX : Hid (∀ v, v = (a.testBit k && !b.testBit k) → ∀ i, i < 6 → (if i = k then v else decide (i < k) && (a.testBit i && !b.testBit i)) = (decide (i < k + 1) && (a.testBit i && !b.testBit i))) := Lib.hid (by
        rintro v rfl i _
        by_cases hi : i = k
        · subst hi; simp
        · rw [if_neg hi, show decide (i < k) = decide (i < k + 1) from decide_eq_decide.2 (by omega)])
      have HY : Hid (∀ v, v = (d.testBit k && !c.testBit k) → ∀ i, i < 6 → (if i = k then v else decide (i < k) && (d.testBit i && !c.testBit i)) = (decide (i < k + 1) && (d.testBit i && !c.testBit i))) := Lib.hid (by
        rintro v rfl i _
        by_cases hi : i = k
        · subst hi; simp
        · rw [if_neg hi, show decide (i < k) = decide (i < k + 1) from decide_eq_decide.2 (by omega)])
      cases hp : a.testBit k <;> cases hq : d.testBit k
      all_goals
        rw [hp] at HX
        rw [hq] at HY
        go_wp2
        refine ⟨⟨k + 1, by go_num, by omega, (H1.out.other (by simp <;> omega) _).other (by simp <;> omega) _, (H2.out.other (by simp <;> omega) _).other (by simp <;> omega) _, (H3.out.other (by simp) _).other (by simp <;> omega) _, ?_, ?_, (HB.out.setCell (by simp <;> omega) _).setCell (by simp <;> omega) _⟩, by simp [intOf]; omega⟩
        · exact ((H4.out.set k h _).congr (HX.out _ rfl)).other (by simp) _
        · exact ((H5.out.other (by simp) _).set k h _).congr (HY.out _ rfl)
    · obtain rfl : k = 6 := by omega
      obtain ⟨f, hf⟩ : ∃ f : Nat → Bool, f = fun i => a.testBit i && !b.testBit i := ⟨_, rfl⟩
      obtain ⟨g, hg⟩ : ∃ g : Nat → Bool, g = fun i => d.testBit i && !c.testBit i := ⟨_, rfl⟩
      have hx : Bx wr (w.heap.size + 1 + 1 + 1) f := H4.out.congr (fun i hi => by simp [hi, hf])
      have hy : Bx wr (w.heap.size + 1 + 1 + 1 + 1) g := H5.out.congr (fun i hi => by simp [hi, hg])
      have HF : Hid (setF f = minus a b) := Lib.hid (by rw [hf]; rfl)
      have HG : Hid (setF g = minus d c) := Lib.hid (by rw [hg]; rfl)
      clear hf hg
      have x0 := hx.cell 0 (by omega); have x1 := hx.cell 1 (by omega); have x2 := hx.cell 2 (by omega); have x3 := hx.cell 3 (by omega); have x4 := hx.cell 4 (by omega); have x5 := hx.cell 5 (by omega)
      have y0 := hy.cell 0 (by omega); have y1 := hy.cell 1 (by omega); have y2 := hy.cell 2 (by omega); have y3 := hy.cell 3 (by omega); have y4 := hy.cell 4 (by omega); have y5 := hy.cell 5 (by omega)
      clear hx hy
      go_wp2_with fail
      refine (set_r f g _).mono ?_
      rw [HF.out, HG.out]
      rintro e w2 ⟨rfl, hb2⟩
      have H3 := Lib.hid (H3.out.below hb2 (by omega))
      have HB := Lib.hid (HB.out.trans (hb2.mono (by omega)))
      have z0 := H3.out.c0
      have z1 := H3.out.c1
      have z2 := frozen_of_row w2 (w.heap.size + 1 + 1) 0 _ _ H3.out
      have z3 := frozen_of_row w2 (w.heap.size + 1 + 1) 1 _ _ H3.out
      clear hb2
      unfold vw
      go_wp2
      refine bodyPost_ret (results_view rfl rfl (H3.out.put _ _)) rfl ?_
      exact ⟨rfl, (HB.out.setCell (by simp <;> omega) _).setCell (by simp <;> omega) _⟩
theorem eq_view (a b c d : Int) (w : World) : (Op.equalIn 10000 25 (.agg #[.int .i64 a, .int .i64 b]) (.agg #[.int .i64 c, .int .i64 d])).run Try.prog w = .ok (a == c && b == d) w := by
  have u3 := Try.underlying3
  have a3 := Try.isAgg3
  have z3 := Try.sizeOf3
  have hS : Try.prog.underlying 25 = some (.struct (Try.prog.fieldsOf 25)) := by kernel_rfl
  rw [show (10000 : Nat) = 9999 + 1 from rfl, run_equalIn_agg w 9999 25 _ _ hS (by kernel_rfl)]
  simp only [Program.fieldsOf, Try.underlying25]
  go_simp
  by_cases h1 : a = c <;> by_cases h2 : b = d <;> simp [h1, h2]
end Go.Proofs.Ytofjdfnoibfdfaa
