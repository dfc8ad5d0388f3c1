/- What the document's Size, Minus and Within of layer 4 answer: contracts by walks. -/
import Derived.Test.YtofjdfnoibfdfaaChgR
namespace Go.Proofs.Ytofjdfnoibfdfaa
open Go.RowKit
open Chg

/-- how many of the first k -/
def cntK (n : Nat) : Nat → Nat
  | 0 => 0
  | k + 1 => cntK n k + if n.testBit k then 1 else 0
theorem cntK_le (n k : Nat) : cntK n k ≤ k := by
  induction k with
  | zero => exact Nat.le_refl _
  | succ k ih => unfold cntK; split <;> omega
theorem cntK_six (n : Nat) : cntK n 6 = cnt n := by
  unfold cnt
  simp [cntK]

/-- two cells of a view, in a block of its own -/
def Vx (w : World) (g : Nat) (a d : Nat) : Prop := w.heap[g]? = some (.cells #[.int .i64 (a : Int), .int .i64 (d : Int)] 25)
theorem Vx.c0 {w : World} {g a d : Nat} (h : Vx w g a d) : w.cell? ⟨g, 0, none⟩ = some (.int .i64 (a : Int)) := by
  rw [cell_of_row _ _ _ _ _ _ h]; rfl
theorem Vx.c1 {w : World} {g a d : Nat} (h : Vx w g a d) : w.cell? ⟨g, 1, none⟩ = some (.int .i64 (d : Int)) := by
  rw [cell_of_row _ _ _ _ _ _ h]; rfl
theorem Vx.below {w w' : World} {g a d B : Nat} (h : Vx w g a d) (hb : Below B w w') (hg : g < B) : Vx w' g a d := (hb.block g hg).trans h

theorem size_r (a d : Nat) (ha : a < 64) (hd : d < 64) (w : World) : Calls Try.prog 33 #[vw a d] w fun e w' => e = .returned (.int .i64 ((cnt a + cnt d : Nat) : Int)) ∧ Below w.heap.size w w' := by
  unfold vw
  go_enter Try.func33, Try.ntmps33
  go_wp2
  go_loopw [3, 4] (fun v i wr => ∃ k : Nat, v = .int .i64 ((cntK a k + cntK d k : Nat) : Int) ∧ i = .int .i64 k ∧ k ≤ 6 ∧ Vx wr w.heap.size a d ∧ Below w.heap.size w wr) (fun _ i _ => 6 - (intOf i).toNat)
  case atStart => exact ⟨0, rfl, rfl, by omega, heap_alloc_new w _, bal (Below.refl _ _) (Nat.le_refl _) _⟩
  case round =>
    obtain ⟨k, rfl, rfl, hk, hv, hb⟩ := hrel
    have h0 := hv.c0
    have h1 := hv.c1
    have hlt : w.heap.size < wr.heap.size := by
      rcases Nat.lt_or_ge w.heap.size wr.heap.size with h | h
      · exact h
      · have := hv; unfold Vx at this; rw [Array.getElem?_eq_none h] at this; cases this
    have HV := Lib.hid hv; clear hv
    have HB := Lib.hid hb; clear hb
    have hn := cntK_le a k
    have hm := cntK_le d k
    obtain ⟨p, hp⟩ : ∃ p, p = cntK a k + cntK d k := ⟨_, rfl⟩
    rw [← hp] at ⊢
    have hp12 : p ≤ 12 := by omega
    have HP := Lib.hid hp; clear hp hn hm
    by_cases h : k < 6
    · go_wp2_with fail
      refine (has_r a d ha hd k (by omega) _).mono ?_
      rintro e w2 ⟨rfl, hb2⟩
      have HV2 := Lib.hid (HV.out.below hb2 hlt)
      have HB2 := Lib.hid (HB.out.trans (hb2.mono (by omega))); clear hb2
      have hs : ∀ x y : Nat, p + x + y = cntK a (k + 1) + cntK d (k + 1) ↔ x + y = (if a.testBit k then 1 else 0) + (if d.testBit k then 1 else 0) := by
        intro x y
        have := HP.out
        unfold cntK
        omega
      have HS := Lib.hid hs; clear hs
      cases hx : a.testBit k <;> cases hy : d.testBit k
      all_goals
        rw [hx, hy] at HS
        go_wp2
      · exact ⟨⟨k + 1, by rw [← (HS.out 0 0).2 rfl]; rfl, by go_num, by omega, HV2.out, HB2.out⟩, by simp [intOf]; omega⟩
      · exact ⟨⟨k + 1, by rw [← (HS.out 0 1).2 rfl]; rfl, by go_num, by omega, HV2.out, HB2.out⟩, by simp [intOf]; omega⟩
      · exact ⟨⟨k + 1, by rw [← (HS.out 1 0).2 rfl]; rfl, by go_num, by omega, HV2.out, HB2.out⟩, by simp [intOf]; omega⟩
      · refine ⟨⟨k + 1, ?_, by go_num, by omega, HV2.out, HB2.out⟩, by simp [intOf]; omega⟩
        rw [← (HS.out 1 1).2 rfl]
        exact congrArg (Value.int IntKind.i64) (by omega)
    · go_wp2
      go_ret
      obtain rfl : k = 6 := by omega
      exact ⟨by rw [HP.out, cntK_six, cntK_six]; rfl, HB.out⟩
end Go.Proofs.Ytofjdfnoibfdfaa
