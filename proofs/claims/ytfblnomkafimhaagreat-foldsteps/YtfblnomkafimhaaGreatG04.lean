/- Contracts and words on which the claims of this seat stand, part 4: ChgR ChgS ChgM ChgN ChgO ChgJ ChgW ChgC. -/
import Derived.Test.YtfblnomkafimhaaGreatG01
import Derived.BigQuiet
import Derived.Deep.QuietTactic
import Derived.WalkSpells
import Derived.Handy
import Derived.Deep.DeepCutAuto
import Derived.Laws.StructEq
set_option linter.unusedSimpArgs false
set_option linter.unusedVariables false
namespace Go.Proofs.YtfblnomkafimhaaGreat.Chgw
set_option maxRecDepth 20000
open Go.RowKit
open Chg

theorem bal {B : Nat} {w0 w : World} (h : Below B w0 w) (hB : B ≤ w0.heap.size) (o : Obj) : Below B w0 (w.alloc o) := h.alloc (Nat.le_trans hB h.size) o

/-- a view as a value -/
def vw (a d : Int) : Value := .agg #[.int .i64 a, .int .i64 d]

def rightB (a d : Int) : Bool := decide (0 ≤ a ∧ a ≤ 63 ∧ 0 ≤ d ∧ d ≤ 63)
theorem ret_bool {a b : Bool} (h : a = b) : Ending.returned (.bool a) = .returned (.bool b) := by rw [h]

theorem bit_r (s k : Nat) (hs : s ≤ 1000000) (hk : k ≤ 64) (w : World) : Calls Tryz.prog 155 #[.int .i64 (s : Int), .int .i64 (k : Int)] w fun e w' => e = .returned (.bool (s.testBit k)) ∧ w = w' := by
  go_enter Tryz.func155, Tryz.ntmps155
  go_wp2
  go_loop [0, 5] (fun v i => ∃ j : Nat, v = .int .i64 ((s / 2 ^ j : Nat) : Int) ∧ i = .int .i64 j ∧ j ≤ k) (fun _ i => k - (intOf i).toNat)
  case atStart => exact ⟨0, by simp, rfl, by omega⟩
  case round =>
    obtain ⟨j, rfl, rfl, hj⟩ := hrel
    have hle := Nat.div_le_self s (2 ^ j)
    obtain ⟨q, hq⟩ : ∃ q, q = s / 2 ^ j := ⟨_, rfl⟩
    rw [← hq] at hle ⊢
    have HQ := Lib.hid hq; clear hq
    by_cases h : j < k
    · go_wp2
      refine ⟨⟨j + 1, ?_, by go_num, by omega⟩, by simp [intOf]; omega⟩
      rw [Nat.pow_succ, ← Nat.div_div_eq_div_mul, ← HQ.out]
      rfl
    · go_wp2
      go_ret
      obtain rfl : j = k := by omega
      refine ⟨ret_bool ?_, rfl⟩
      rw [Nat.testBit_eq_decide_div_mod_eq, ← HQ.out, Bool.eq_iff_iff, beq_iff_eq, decide_eq_true_iff]
      omega

theorem right_r (a d : Int) (w : World) : Calls Tryz.prog 20 #[vw a d] w fun e w' => e = .returned (.bool (rightB a d)) ∧ Below w.heap.size w w' := by
  unfold vw
  go_enter Tryz.func20, Tryz.ntmps20
  go_wp2
  all_goals go_ret
  all_goals refine ⟨ret_bool ?_, (Below.refl _ _).alloc (Nat.le_refl _) _⟩
  all_goals
    unfold rightB
    rw [Bool.eq_iff_iff]
    simp
    omega
theorem name_r (a d : Nat) (ha : a < 64) (hd : d < 64) (w : World) : Calls Tryz.prog 77 #[vw a d] w fun e w' => e = .returned (.int .i64 ((64 * a + d : Nat) : Int)) ∧ Below w.heap.size w w' := by
  unfold vw
  go_enter Tryz.func77, Tryz.ntmps77
  go_wp2
  go_ret
  exact ⟨rfl, (Below.refl _ _).alloc (Nat.le_refl _) _⟩
theorem has_r (a d : Nat) (ha : a < 64) (hd : d < 64) (k : Nat) (hk : k ≤ 64) (w : World) : Calls Tryz.prog 114 #[vw a d, .int .i64 (k : Int)] w fun e w' => e = .returned (.tuple #[.bool (a.testBit k), .bool (d.testBit k)]) ∧ Below w.heap.size w w' := by
  unfold vw
  go_enter Tryz.func114, Tryz.ntmps114
  go_wp2
  go_quiet (first | (go_at_call 155; refine Calls.quiet_of_same ((bit_r _ k ?_ hk _).mono fun _ _ h => ⟨h.1, h.2.symm⟩); omega))
  go_wp2
  go_ret2
  exact ⟨rfl, ((Below.refl _ _).alloc (Nat.le_refl _) _).trans ⟨rfl, rfl, rfl, Nat.le_refl _, fun _ _ => rfl⟩⟩

/-- the number whose lowest bits these are, the first k of them -/
def acc (l : List Bool) : Nat → Nat
  | 0 => 0
  | k + 1 => acc l k + if l.getD k false then 2 ^ k else 0
theorem acc_lt (l : List Bool) (k : Nat) : acc l k < 2 ^ k := by
  induction k with
  | zero => simp [acc]
  | succ k ih =>
    unfold acc
    rw [Nat.pow_succ]
    split <;> omega
theorem acc_six (f : Nat → Bool) : acc [f 0, f 1, f 2, f 3, f 4, f 5] 6 = setF f := by
  unfold setF
  simp [acc]
def arr6 (f : Nat → Bool) : Value := .agg #[.bool (f 0), .bool (f 1), .bool (f 2), .bool (f 3), .bool (f 4), .bool (f 5)]

theorem set_six (b0 b1 b2 b3 b4 b5 c0 c1 c2 c3 c4 c5 : Bool) (w : World) : Calls Tryz.prog 128 #[.agg #[.bool b0, .bool b1, .bool b2, .bool b3, .bool b4, .bool b5], .agg #[.bool c0, .bool c1, .bool c2, .bool c3, .bool c4, .bool c5]] w fun e w' => e = .returned (vw (acc [b0, b1, b2, b3, b4, b5] 6) (acc [c0, c1, c2, c3, c4, c5] 6)) ∧ Below w.heap.size w w' := by
  go_enter Tryz.func128, Tryz.ntmps128
  go_wp2
  go_loopw [6, 7] (fun v i wr => ∃ k p q : Nat, v = .int .i64 ((2 ^ k : Nat) : Int) ∧ i = .int .i64 k ∧ k ≤ 6 ∧ wr = (((w.alloc (.cells #[.bool b0, .bool b1, .bool b2, .bool b3, .bool b4, .bool b5] 170)).alloc (.cells #[.bool c0, .bool c1, .bool c2, .bool c3, .bool c4, .bool c5] 170)).alloc (.cells #[.int .i64 0, .int .i64 0] 26)).alloc (.cells #[.int .i64 (p : Int), .int .i64 (q : Int)] 26) ∧ p = acc [b0, b1, b2, b3, b4, b5] k ∧ q = acc [c0, c1, c2, c3, c4, c5] k) (fun _ i _ => 6 - (intOf i).toNat)
  case atStart => exact ⟨0, 0, 0, rfl, rfl, by omega, rfl, rfl, rfl⟩
  case round =>
    obtain ⟨k, p, q, rfl, rfl, hk, rfl, hp, hq⟩ := hrel
    have HP := Lib.hid hp; clear hp
    have HQ := Lib.hid hq; clear hq
    obtain rfl | rfl | rfl | rfl | rfl | rfl | rfl : k = 0 ∨ k = 1 ∨ k = 2 ∨ k = 3 ∨ k = 4 ∨ k = 5 ∨ k = 6 := by omega
    · have hp0 : p < 1 := by rw [HP.out]; exact acc_lt _ _
      have hq0 : q < 1 := by rw [HQ.out]; exact acc_lt _ _
      cases b0 <;> cases c0
      · go_wp2
        exact ⟨⟨1, p, q, rfl, rfl, by omega, rfl, by rw [HP.out]; rfl, by rw [HQ.out]; rfl⟩, by simp [intOf]⟩
      · go_wp2
        exact ⟨⟨1, p, q + 1, rfl, rfl, by omega, rfl, by rw [HP.out]; rfl, by rw [HQ.out]; rfl⟩, by simp [intOf]⟩
      · go_wp2
        exact ⟨⟨1, p + 1, q, rfl, rfl, by omega, rfl, by rw [HP.out]; rfl, by rw [HQ.out]; rfl⟩, by simp [intOf]⟩
      · go_wp2
        exact ⟨⟨1, p + 1, q + 1, rfl, rfl, by omega, rfl, by rw [HP.out]; rfl, by rw [HQ.out]; rfl⟩, by simp [intOf]⟩
    · have hp0 : p < 2 := by rw [HP.out]; exact acc_lt _ _
      have hq0 : q < 2 := by rw [HQ.out]; exact acc_lt _ _
      cases b1 <;> cases c1
      · go_wp2
        exact ⟨⟨2, p, q, rfl, rfl, by omega, rfl, by rw [HP.out]; rfl, by rw [HQ.out]; rfl⟩, by simp [intOf]⟩
      · go_wp2
        exact ⟨⟨2, p, q + 2, rfl, rfl, by omega, rfl, by rw [HP.out]; rfl, by rw [HQ.out]; rfl⟩, by simp [intOf]⟩
      · go_wp2
        exact ⟨⟨2, p + 2, q, rfl, rfl, by omega, rfl, by rw [HP.out]; rfl, by rw [HQ.out]; rfl⟩, by simp [intOf]⟩
      · go_wp2
        exact ⟨⟨2, p + 2, q + 2, rfl, rfl, by omega, rfl, by rw [HP.out]; rfl, by rw [HQ.out]; rfl⟩, by simp [intOf]⟩
    · have hp0 : p < 4 := by rw [HP.out]; exact acc_lt _ _
      have hq0 : q < 4 := by rw [HQ.out]; exact acc_lt _ _
      cases b2 <;> cases c2
      · go_wp2
        exact ⟨⟨3, p, q, rfl, rfl, by omega, rfl, by rw [HP.out]; rfl, by rw [HQ.out]; rfl⟩, by simp [intOf]⟩
      · go_wp2
        exact ⟨⟨3, p, q + 4, rfl, rfl, by omega, rfl, by rw [HP.out]; rfl, by rw [HQ.out]; rfl⟩, by simp [intOf]⟩
      · go_wp2
        exact ⟨⟨3, p + 4, q, rfl, rfl, by omega, rfl, by rw [HP.out]; rfl, by rw [HQ.out]; rfl⟩, by simp [intOf]⟩
      · go_wp2
        exact ⟨⟨3, p + 4, q + 4, rfl, rfl, by omega, rfl, by rw [HP.out]; rfl, by rw [HQ.out]; rfl⟩, by simp [intOf]⟩
    · have hp0 : p < 8 := by rw [HP.out]; exact acc_lt _ _
      have hq0 : q < 8 := by rw [HQ.out]; exact acc_lt _ _
      cases b3 <;> cases c3
      · go_wp2
        exact ⟨⟨4, p, q, rfl, rfl, by omega, rfl, by rw [HP.out]; rfl, by rw [HQ.out]; rfl⟩, by simp [intOf]⟩
      · go_wp2
        exact ⟨⟨4, p, q + 8, rfl, rfl, by omega, rfl, by rw [HP.out]; rfl, by rw [HQ.out]; rfl⟩, by simp [intOf]⟩
      · go_wp2
        exact ⟨⟨4, p + 8, q, rfl, rfl, by omega, rfl, by rw [HP.out]; rfl, by rw [HQ.out]; rfl⟩, by simp [intOf]⟩
      · go_wp2
        exact ⟨⟨4, p + 8, q + 8, rfl, rfl, by omega, rfl, by rw [HP.out]; rfl, by rw [HQ.out]; rfl⟩, by simp [intOf]⟩
    · have hp0 : p < 16 := by rw [HP.out]; exact acc_lt _ _
      have hq0 : q < 16 := by rw [HQ.out]; exact acc_lt _ _
      cases b4 <;> cases c4
      · go_wp2
        exact ⟨⟨5, p, q, rfl, rfl, by omega, rfl, by rw [HP.out]; rfl, by rw [HQ.out]; rfl⟩, by simp [intOf]⟩
      · go_wp2
        exact ⟨⟨5, p, q + 16, rfl, rfl, by omega, rfl, by rw [HP.out]; rfl, by rw [HQ.out]; rfl⟩, by simp [intOf]⟩
      · go_wp2
        exact ⟨⟨5, p + 16, q, rfl, rfl, by omega, rfl, by rw [HP.out]; rfl, by rw [HQ.out]; rfl⟩, by simp [intOf]⟩
      · go_wp2
        exact ⟨⟨5, p + 16, q + 16, rfl, rfl, by omega, rfl, by rw [HP.out]; rfl, by rw [HQ.out]; rfl⟩, by simp [intOf]⟩
    · have hp0 : p < 32 := by rw [HP.out]; exact acc_lt _ _
      have hq0 : q < 32 := by rw [HQ.out]; exact acc_lt _ _
      cases b5 <;> cases c5
      · go_wp2
        exact ⟨⟨6, p, q, rfl, rfl, by omega, rfl, by rw [HP.out]; rfl, by rw [HQ.out]; rfl⟩, by simp [intOf]⟩
      · go_wp2
        exact ⟨⟨6, p, q + 32, rfl, rfl, by omega, rfl, by rw [HP.out]; rfl, by rw [HQ.out]; rfl⟩, by simp [intOf]⟩
      · go_wp2
        exact ⟨⟨6, p + 32, q, rfl, rfl, by omega, rfl, by rw [HP.out]; rfl, by rw [HQ.out]; rfl⟩, by simp [intOf]⟩
      · go_wp2
        exact ⟨⟨6, p + 32, q + 32, rfl, rfl, by omega, rfl, by rw [HP.out]; rfl, by rw [HQ.out]; rfl⟩, by simp [intOf]⟩
    · go_wp2
      go_returns
      exact ⟨by rw [HP.out, HQ.out]; rfl, bal (bal (bal (bal (Below.refl _ _) (Nat.le_refl _) _) (Nat.le_refl _) _) (Nat.le_refl _) _) (Nat.le_refl _) _⟩
theorem set_r (f g : Nat → Bool) (w : World) : Calls Tryz.prog 128 #[arr6 f, arr6 g] w fun e w' => e = .returned (vw (setF f) (setF g)) ∧ Below w.heap.size w w' := by
  have := set_six (f 0) (f 1) (f 2) (f 3) (f 4) (f 5) (g 0) (g 1) (g 2) (g 3) (g 4) (g 5) w
  rw [acc_six, acc_six] at this
  exact this
end Go.Proofs.YtfblnomkafimhaaGreat.Chgw

namespace Go.Proofs.YtfblnomkafimhaaGreat.Chgw
set_option maxRecDepth 20000
open Go.RowKit
open Chg

/-- how many of the first k -/
def cntK (n : Nat) : Nat → Nat
  | 0 => 0
  | k + 1 => cntK n k + if n.testBit k then 1 else 0
theorem cntK_le (n k : Nat) : cntK n k ≤ k := by
  induction k with
  | zero => exact Nat.le_refl _
  | succ k ih => unfold cntK; split <;> omega
theorem cntK_six (n : Nat) : cntK n 6 = cnt n := by
  unfold cnt
  simp [cntK]

/-- two cells of a view, in a block of its own -/
def Vx (w : World) (g : Nat) (a d : Nat) : Prop := w.heap[g]? = some (.cells #[.int .i64 (a : Int), .int .i64 (d : Int)] 26)
theorem Vx.c0 {w : World} {g a d : Nat} (h : Vx w g a d) : w.cell? ⟨g, 0, none⟩ = some (.int .i64 (a : Int)) := by
  rw [cell_of_row _ _ _ _ _ _ h]; rfl
theorem Vx.c1 {w : World} {g a d : Nat} (h : Vx w g a d) : w.cell? ⟨g, 1, none⟩ = some (.int .i64 (d : Int)) := by
  rw [cell_of_row _ _ _ _ _ _ h]; rfl
theorem Vx.below {w w' : World} {g a d B : Nat} (h : Vx w g a d) (hb : Below B w w') (hg : g < B) : Vx w' g a d := (hb.block g hg).trans h

theorem size_r (a d : Nat) (ha : a < 64) (hd : d < 64) (w : World) : Calls Tryz.prog 76 #[vw a d] w fun e w' => e = .returned (.int .i64 ((cnt a + cnt d : Nat) : Int)) ∧ Below w.heap.size w w' := by
  unfold vw
  go_enter Tryz.func76, Tryz.ntmps76
  go_wp2
  go_loopw [3, 4] (fun v i wr => ∃ k : Nat, v = .int .i64 ((cntK a k + cntK d k : Nat) : Int) ∧ i = .int .i64 k ∧ k ≤ 6 ∧ Vx wr w.heap.size a d ∧ Below w.heap.size w wr) (fun _ i _ => 6 - (intOf i).toNat)
  case atStart => exact ⟨0, rfl, rfl, by omega, heap_alloc_new w _, bal (Below.refl _ _) (Nat.le_refl _) _⟩
  case round =>
    obtain ⟨k, rfl, rfl, hk, hv, hb⟩ := hrel
    have h0 := hv.c0
    have h1 := hv.c1
    have hlt : w.heap.size < wr.heap.size := by
      rcases Nat.lt_or_ge w.heap.size wr.heap.size with h | h
      · exact h
      · have := hv; unfold Vx at this; rw [Array.getElem?_eq_none h] at this; cases this
    have HV := Lib.hid hv; clear hv
    have HB := Lib.hid hb; clear hb
    have hn := cntK_le a k
    have hm := cntK_le d k
    obtain ⟨p, hp⟩ : ∃ p, p = cntK a k + cntK d k := ⟨_, rfl⟩
    rw [← hp] at ⊢
    have hp12 : p ≤ 12 := by omega
    have HP := Lib.hid hp; clear hp hn hm
    by_cases h : k < 6
    · go_wp2_with fail
      refine (has_r a d ha hd k (by omega) _).mono ?_
      rintro e w2 ⟨rfl, hb2⟩
      have HV2 := Lib.hid (HV.out.below hb2 hlt)
      have HB2 := Lib.hid (HB.out.trans (hb2.mono (by omega))); clear hb2
      have hs : ∀ x y : Nat, p + x + y = cntK a (k + 1) + cntK d (k + 1) ↔ x + y = (if a.testBit k then 1 else 0) + (if d.testBit k then 1 else 0) := by
        intro x y
        have := HP.out
        unfold cntK
        omega
      have HS := Lib.hid hs; clear hs
      cases hx : a.testBit k <;> cases hy : d.testBit k
      all_goals
        rw [hx, hy] at HS
        go_wp2
      · exact ⟨⟨k + 1, by rw [← (HS.out 0 0).2 rfl]; rfl, by go_num, by omega, HV2.out, HB2.out⟩, by simp [intOf]; omega⟩
      · exact ⟨⟨k + 1, by rw [← (HS.out 0 1).2 rfl]; rfl, by go_num, by omega, HV2.out, HB2.out⟩, by simp [intOf]; omega⟩
      · exact ⟨⟨k + 1, by rw [← (HS.out 1 0).2 rfl]; rfl, by go_num, by omega, HV2.out, HB2.out⟩, by simp [intOf]; omega⟩
      · refine ⟨⟨k + 1, ?_, by go_num, by omega, HV2.out, HB2.out⟩, by simp [intOf]; omega⟩
        rw [← (HS.out 1 1).2 rfl]
        exact congrArg (Value.int IntKind.i64) (by omega)
    · go_wp2
      go_ret
      obtain rfl : k = 6 := by omega
      exact ⟨by rw [HP.out, cntK_six, cntK_six]; rfl, HB.out⟩
end Go.Proofs.YtfblnomkafimhaaGreat.Chgw

namespace Go.Proofs.YtfblnomkafimhaaGreat.Chgw
set_option maxRecDepth 20000
open Go.RowKit
open Chg

/-- six cells of an array, in a block of its own -/
def cells6 (f : Nat → Bool) : Array Value := #[.bool (f 0), .bool (f 1), .bool (f 2), .bool (f 3), .bool (f 4), .bool (f 5)]
def Bx (w : World) (g : Nat) (f : Nat → Bool) : Prop := w.heap[g]? = some (.cells (cells6 f) 170)
theorem Bx.cell {w : World} {g : Nat} {f : Nat → Bool} (h : Bx w g f) (k : Nat) (hk : k < 6) : w.cell? ⟨g, k, none⟩ = some (.bool (f k)) := by
  rw [cell_of_row _ _ _ _ _ _ h]
  obtain rfl | rfl | rfl | rfl | rfl | rfl : k = 0 ∨ k = 1 ∨ k = 2 ∨ k = 3 ∨ k = 4 ∨ k = 5 := by omega
  all_goals rfl
theorem Bx.frozen {w : World} {g : Nat} {f : Nat → Bool} (h : Bx w g f) (k : Nat) : w.frozen? ⟨g, k, none⟩ = false := frozen_of_row w g k _ _ h
theorem Bx.below {w w' : World} {g B : Nat} {f : Nat → Bool} (h : Bx w g f) (hb : Below B w w') (hg : g < B) : Bx w' g f := (hb.block g hg).trans h
theorem Bx.other {w : World} {g : Nat} {f : Nat → Bool} (h : Bx w g f) {p : Addr} (hp : g ≠ p.block) (u : Value) : Bx (w.setCell p u) g f := (Below.heap_setCell w p u g hp).trans h
theorem Bx.set {w : World} {g : Nat} {f : Nat → Bool} (h : Bx w g f) (k : Nat) (hk : k < 6) (v : Bool) : Bx (w.setCell ⟨g, k, none⟩ (.bool v)) g (fun i => if i = k then v else f i) := by
  unfold Bx
  rw [heap_setCell_same w g k _ _ _ h]
  obtain rfl | rfl | rfl | rfl | rfl | rfl : k = 0 ∨ k = 1 ∨ k = 2 ∨ k = 3 ∨ k = 4 ∨ k = 5 := by omega
  all_goals rfl
theorem Bx.lt {w : World} {g : Nat} {f : Nat → Bool} (h : Bx w g f) : g < w.heap.size := by
  rcases Nat.lt_or_ge g w.heap.size with h' | h'
  · exact h'
  · unfold Bx at h; rw [Array.getElem?_eq_none h'] at h; cases h
theorem Bx.congr {w : World} {g : Nat} {f f' : Nat → Bool} (h : Bx w g f) (e : ∀ i, i < 6 → f i = f' i) : Bx w g f' := by
  unfold Bx cells6 at *
  rw [h, e 0 (by omega), e 1 (by omega), e 2 (by omega), e 3 (by omega), e 4 (by omega), e 5 (by omega)]
theorem Vx.other {w : World} {g a d : Nat} (h : Vx w g a d) {p : Addr} (hp : g ≠ p.block) (u : Value) : Vx (w.setCell p u) g a d := (Below.heap_setCell w p u g hp).trans h
theorem Vx.lt {w : World} {g a d : Nat} (h : Vx w g a d) : g < w.heap.size := by
  rcases Nat.lt_or_ge g w.heap.size with h' | h'
  · exact h'
  · unfold Vx at h; rw [Array.getElem?_eq_none h'] at h; cases h

theorem Vx.put {w : World} {g a d : Nat} (h : Vx w g a d) (a' d' : Nat) : Vx ((w.setCell ⟨g, 0, none⟩ (.int .i64 (a' : Int))).setCell ⟨g, 1, none⟩ (.int .i64 (d' : Int))) g a' d' := by
  unfold Vx
  rw [heap_setCell_same _ g 1 _ _ _ (heap_setCell_same w g 0 _ _ _ h)]
  rfl
theorem results_view {fn : Func} {t : Tmp} (h : fn.results = #[.cell t 26]) {tmps : Array Value} {w : World} {g a d : Nat} (hp : tmps.getD t undef = .pointer (some ⟨g, 0, none⟩)) (hv : Vx w g a d) : (results fn tmps).run Tryz.prog w = .ok (vw a d) w := by
  have h0 := hv.c0
  have h1 := hv.c1
  have u3 := Tryz.sizeOf26
  have hp' : tmps[t]?.getD undef = .pointer (some ⟨g, 0, none⟩) := by rw [← hp, Array.getD_eq_getD_getElem?]
  unfold results vw
  simp only [h]
  simp [hp', go_sem, h0, h1]
theorem results_view2 {fn : Func} {t u : Tmp} (h : fn.results = #[.cell t 26, .tmp u]) {tmps : Array Value} {w : World} {g a d : Nat} {x : Value} (hp : tmps.getD t undef = .pointer (some ⟨g, 0, none⟩)) (hx : tmps.getD u undef = x) (hv : Vx w g a d) : (results fn tmps).run Tryz.prog w = .ok (.tuple #[vw a d, x]) w := by
  have h0 := hv.c0
  have h1 := hv.c1
  have u3 := Tryz.sizeOf26
  have hp' : tmps[t]?.getD undef = .pointer (some ⟨g, 0, none⟩) := by rw [← hp, Array.getD_eq_getD_getElem?]
  have hx' : tmps[u]?.getD undef = x := by rw [← hx, Array.getD_eq_getD_getElem?]
  unfold results vw
  simp only [h]
  simp [hp', hx', go_sem, h0, h1]
theorem hat (w : World) (o : Obj) (g : Nat) (hg : g = w.heap.size) : (w.alloc o).heap[g]? = some o := by
  subst hg
  exact heap_alloc_new w o
theorem hbe {w : World} {o x : Obj} {g : Nat} (h : w.heap[g]? = some x) : (w.alloc o).heap[g]? = some x := by
  rw [Below.heap_alloc w o g ?_]
  · exact h
  · rcases Nat.lt_or_ge g w.heap.size with h' | h'
    · exact h'
    · rw [Array.getElem?_eq_none h'] at h; cases h

theorem minus_r (a d : Nat) (ha : a < 64) (hd : d < 64) (b c : Nat) (hb : b < 64) (hc : c < 64) (w : World) : Calls Tryz.prog 96 #[vw a d, vw b c] w fun e w' => e = .returned (vw (minus a b) (minus d c)) ∧ Below w.heap.size w w' := by
  unfold vw
  go_enter Tryz.func96, Tryz.ntmps96
  go_wp2
  go_loopw [7] (fun i wr => ∃ k : Nat, i = .int .i64 k ∧ k ≤ 6 ∧ Vx wr w.heap.size a d ∧ Vx wr (w.heap.size + 1) b c ∧ Vx wr (w.heap.size + 1 + 1) 0 0 ∧ Bx wr (w.heap.size + 1 + 1 + 1) (fun i => decide (i < k) && (a.testBit i && !b.testBit i)) ∧ Bx wr (w.heap.size + 1 + 1 + 1 + 1) (fun i => decide (i < k) && (d.testBit i && !c.testBit i)) ∧ Below w.heap.size w wr) (fun i _ => 6 - (intOf i).toNat)
  case atStart =>
    refine ⟨0, rfl, by omega, ?_, ?_, ?_, ?_, ?_, bal (bal (bal (bal (bal (Below.refl _ _) (Nat.le_refl _) _) (Nat.le_refl _) _) (Nat.le_refl _) _) (Nat.le_refl _) _) (Nat.le_refl _) _⟩
    · exact hbe (hbe (hbe (hbe (hat _ _ _ rfl))))
    · exact hbe (hbe (hbe (hat _ _ _ (by simp))))
    · exact hbe (hbe (hat _ _ _ (by simp)))
    · exact hbe (hat _ _ _ (by simp))
    · exact hat _ _ _ (by simp)
  case round =>
    obtain ⟨k, rfl, hk, hv1, hv2, hv3, hx, hy, hbl⟩ := hrel
    have hlt := hy.lt
    have H1 := Lib.hid hv1; have H2 := Lib.hid hv2; have H3 := Lib.hid hv3; have H4 := Lib.hid hx; have H5 := Lib.hid hy; have HB := Lib.hid hbl
    clear hv1 hv2 hv3 hx hy hbl
    by_cases h : k < 6
    · have e0 := H1.out.c0
      have e1 := H1.out.c1
      go_wp2_with fail
      refine (has_r a d ha hd k (by omega) _).mono ?_
      rintro e w2 ⟨rfl, hb2⟩
      have H1 := Lib.hid (H1.out.below hb2 (by omega)); have H2 := Lib.hid (H2.out.below hb2 (by omega)); have H3 := Lib.hid (H3.out.below hb2 (by omega)); have H4 := Lib.hid (H4.out.below hb2 (by omega)); have H5 := Lib.hid (H5.out.below hb2 hlt)
      have HB := Lib.hid (HB.out.trans (hb2.mono (by omega)))
      have hlt := Nat.lt_of_lt_of_le hlt hb2.size
      clear hb2 e0 e1
      have e0 := H2.out.c0
      have e1 := H2.out.c1
      go_wp2_with fail
      refine (has_r b c hb hc k (by omega) _).mono ?_
      rintro e w3 ⟨rfl, hb3⟩
      have H1 := Lib.hid (H1.out.below hb3 (by omega)); have H2 := Lib.hid (H2.out.below hb3 (by omega)); have H3 := Lib.hid (H3.out.below hb3 (by omega)); have H4 := Lib.hid (H4.out.below hb3 (by omega)); have H5 := Lib.hid (H5.out.below hb3 hlt)
      have HB := Lib.hid (HB.out.trans (hb3.mono (by omega)))
      clear hb3 e0 e1
      have x0 := H4.out.cell k h
      have x1 := H4.out.frozen k
      have y0 := H5.out.cell k h
      have y1 := H5.out.frozen k
      have HX : Hid (∀ v, v = (a.testBit k && !b.testBit k) → ∀ i, i < 6 → (if i = k then v else decide (i < k) && (a.testBit i && !b.testBit i)) = (decide (i < k + 1) && (a.testBit i && !b.testBit i))) := Lib.hid (by
        rintro v rfl i _
        by_cases hi : i = k
        · subst hi; simp
        · rw [if_neg hi, show decide (i < k) = decide (i < k + 1) from decide_eq_decide.2 (by omega)])
      have HY : Hid (∀ v, v = (d.testBit k && !c.testBit k) → ∀ i, i < 6 → (if i = k then v else decide (i < k) && (d.testBit i && !c.testBit i)) = (decide (i < k + 1) && (d.testBit i && !c.testBit i))) := Lib.hid (by
        rintro v rfl i _
        by_cases hi : i = k
        · subst hi; simp
        · rw [if_neg hi, show decide (i < k) = decide (i < k + 1) from decide_eq_decide.2 (by omega)])
      cases hp : a.testBit k <;> cases hq : d.testBit k
      all_goals
        rw [hp] at HX
        rw [hq] at HY
        go_wp2
        refine ⟨⟨k + 1, by go_num, by omega, (H1.out.other (by simp <;> omega) _).other (by simp <;> omega) _, (H2.out.other (by simp <;> omega) _).other (by simp <;> omega) _, (H3.out.other (by simp) _).other (by simp <;> omega) _, ?_, ?_, (HB.out.setCell (by simp <;> omega) _).setCell (by simp <;> omega) _⟩, by simp [intOf]; omega⟩
        · exact ((H4.out.set k h _).congr (HX.out _ rfl)).other (by simp) _
        · exact ((H5.out.other (by simp) _).set k h _).congr (HY.out _ rfl)
    · obtain rfl : k = 6 := by omega
      obtain ⟨f, hf⟩ : ∃ f : Nat → Bool, f = fun i => a.testBit i && !b.testBit i := ⟨_, rfl⟩
      obtain ⟨g, hg⟩ : ∃ g : Nat → Bool, g = fun i => d.testBit i && !c.testBit i := ⟨_, rfl⟩
      have hx : Bx wr (w.heap.size + 1 + 1 + 1) f := H4.out.congr (fun i hi => by simp [hi, hf])
      have hy : Bx wr (w.heap.size + 1 + 1 + 1 + 1) g := H5.out.congr (fun i hi => by simp [hi, hg])
      have HF : Hid (setF f = minus a b) := Lib.hid (by rw [hf]; rfl)
      have HG : Hid (setF g = minus d c) := Lib.hid (by rw [hg]; rfl)
      clear hf hg
      have x0 := hx.cell 0 (by omega); have x1 := hx.cell 1 (by omega); have x2 := hx.cell 2 (by omega); have x3 := hx.cell 3 (by omega); have x4 := hx.cell 4 (by omega); have x5 := hx.cell 5 (by omega)
      have y0 := hy.cell 0 (by omega); have y1 := hy.cell 1 (by omega); have y2 := hy.cell 2 (by omega); have y3 := hy.cell 3 (by omega); have y4 := hy.cell 4 (by omega); have y5 := hy.cell 5 (by omega)
      clear hx hy
      go_wp2_with fail
      refine (set_r f g _).mono ?_
      rw [HF.out, HG.out]
      rintro e w2 ⟨rfl, hb2⟩
      have H3 := Lib.hid (H3.out.below hb2 (by omega))
      have HB := Lib.hid (HB.out.trans (hb2.mono (by omega)))
      have z0 := H3.out.c0
      have z1 := H3.out.c1
      have z2 := frozen_of_row w2 (w.heap.size + 1 + 1) 0 _ _ H3.out
      have z3 := frozen_of_row w2 (w.heap.size + 1 + 1) 1 _ _ H3.out
      clear hb2
      unfold vw
      go_wp2
      refine bodyPost_ret (results_view rfl rfl (H3.out.put _ _)) rfl ?_
      exact ⟨rfl, (HB.out.setCell (by simp <;> omega) _).setCell (by simp <;> omega) _⟩
theorem eq_view (a b c d : Int) (w : World) : (Op.equalIn 10000 26 (.agg #[.int .i64 a, .int .i64 b]) (.agg #[.int .i64 c, .int .i64 d])).run Tryz.prog w = .ok (a == c && b == d) w := by
  have u3 := Tryz.underlying3
  have a3 := Tryz.isAgg3
  have z3 := Tryz.sizeOf3
  have hS : Tryz.prog.underlying 26 = some (.struct (Tryz.prog.fieldsOf 26)) := by kernel_rfl
  rw [show (10000 : Nat) = 9999 + 1 from rfl, run_equalIn_agg w 9999 26 _ _ hS (by kernel_rfl)]
  simp only [Program.fieldsOf, Tryz.underlying26]
  go_simp
  by_cases h1 : a = c <;> by_cases h2 : b = d <;> simp [h1, h2]
end Go.Proofs.YtfblnomkafimhaaGreat.Chgw

namespace Go.Proofs.YtfblnomkafimhaaGreat.Chgw
set_option maxRecDepth 20000
open Go.RowKit
open Chg

def withinV (a d b c : Nat) : Bool := within a b && within d c

theorem within_r (a d : Nat) (ha : a < 64) (hd : d < 64) (b c : Nat) (hb : b < 64) (hc : c < 64) (w : World) : Calls Tryz.prog 55 #[vw a d, vw b c] w fun e w' => e = .returned (.bool (withinV a d b c)) ∧ Below w.heap.size w w' := by
  have heq := eq_view
  unfold vw
  go_enter Tryz.func55, Tryz.ntmps55
  go_wp2_with fail
  refine (minus_r a d ha hd b c hb hc _).mono ?_
  rintro e w2 ⟨rfl, hb2⟩
  have HB2 := Lib.hid ((bal (bal (Below.refl _ _) (Nat.le_refl _) _) (Nat.le_refl _) _).trans (hb2.mono (by simp <;> omega))); clear hb2
  unfold vw
  go_wp2
  go_ret
  refine ⟨ret_bool ?_, HB2.out⟩
  unfold withinV
  rw [← minus_zero a b ha hb, ← minus_zero d c hd hc]
  have h : ∀ n : Nat, ((n : Int) == 0) = (n == 0) := fun n => by rw [Bool.eq_iff_iff]; simp
  rw [h, h]
/-- the set of a name -/
def namedF (n : Int) : Option (Nat × Nat) := if 0 ≤ n ∧ n < 4096 then some (n.toNat / 64, n.toNat % 64) else none
/-- a set and the error's number, whichever way it ends -/
def gv (o : Option (Nat × Nat)) : Nat × Nat := o.getD (0, 0)
def ge (o : Option (Nat × Nat)) : Int := if o.isSome then 0 else 41
def RetV (w : World) (o : Option (Nat × Nat)) (e : Ending) (w' : World) : Prop := e = .returned (.tuple #[vw (gv o).1 (gv o).2, .int .i64 (ge o)]) ∧ Below w.heap.size w w'

theorem named_r (n : Int) (hn : -9223372036854775808 ≤ n ∧ n ≤ 9223372036854775807) (w : World) : Calls Tryz.prog 97 #[.int .i64 n] w (RetV w (namedF n)) := by
  go_enter Tryz.func97, Tryz.ntmps97
  go_wp2
  go_loop [4] (fun i => ∃ k : Nat, i = .int .i64 k ∧ k ≤ 64 ∧ (0 ≤ n → 64 * (k : Int) ≤ n)) (fun i => 64 - (intOf i).toNat)
  case atStart => exact ⟨0, rfl, by omega, fun h => by omega⟩
  case round =>
    obtain ⟨k, rfl, hk, hlow⟩ := hrel
    by_cases h : k < 64
    · by_cases h1 : 64 * (k : Int) ≤ n
      · by_cases h2 : n ≤ 64 * (k : Int) + 63
        · have HF : Hid (namedF n = some (k, (n - 64 * (k : Int)).toNat)) := Lib.hid (by
            unfold namedF
            rw [if_pos (by omega)]
            congr 2 <;> omega)
          clear hlow
          go_wp2
          refine bodyPost_ret (results_view2 (g := w.heap.size) (a := k) (d := (n - 64 * (k : Int)).toNat) rfl rfl rfl ?_) rfl ?_
          · have e : ((n - 64 * (k : Int)).toNat : Int) = n - 64 * (k : Int) := by omega
            unfold Vx
            rw [e]
            exact heap_alloc_new w _
          · unfold RetV
            rw [HF.out]
            exact ⟨rfl, bal (Below.refl _ _) (Nat.le_refl _) _⟩
        · clear hlow
          go_wp2
          exact ⟨⟨k + 1, by go_num, by omega, fun _ => by omega⟩, by simp [intOf]; omega⟩
      · have hneg : n < 0 := by omega
        clear hlow
        go_wp2
        exact ⟨⟨k + 1, by go_num, by omega, fun _ => by omega⟩, by simp [intOf]; omega⟩
    · have HF : Hid (namedF n = none) := Lib.hid (by
        unfold namedF
        rw [if_neg (by omega)])
      clear hlow
      go_wp2
      refine bodyPost_ret (results_view2 (g := w.heap.size) (a := 0) (d := 0) rfl rfl rfl (heap_alloc_new w _)) rfl ?_
      unfold RetV
      rw [HF.out]
      exact ⟨rfl, bal (Below.refl _ _) (Nat.le_refl _) _⟩
end Go.Proofs.YtfblnomkafimhaaGreat.Chgw

namespace Go.Proofs.YtfblnomkafimhaaGreat.Chgw
set_option maxRecDepth 20000
open Go.RowKit
open Chg

def okN (z : Int) : Bool := decide (0 ≤ z ∧ z ≤ 5)
def hasN (l : List Int) (i : Nat) : Bool := l.any fun z => z == (i : Int)
def ofF (adds dels : List Int) : Option (Nat × Nat) := if adds.all okN && dels.all okN then some (setF (hasN adds), setF (hasN dels)) else none
end Go.Proofs.YtfblnomkafimhaaGreat.Chgw

namespace Go.Proofs.YtfblnomkafimhaaGreat.Chgw
set_option maxRecDepth 20000
open Go.RowKit
open Chg

/-- the address A leads to these views, two cells each, in a block below B -/
def Rv (w : World) (B : Nat) (A : Option Addr) (vs : List (Nat × Nat)) : Prop :=
  0 < vs.length → ∃ b o, A = some ⟨b, o, none⟩ ∧ b < B ∧ ∀ j v, vs[j]? = some v → w.cell? ⟨b, o + j * 2, none⟩ = some (.int .i64 (v.1 : Int)) ∧ w.cell? ⟨b, o + j * 2 + 1, none⟩ = some (.int .i64 (v.2 : Int))
def anyA (vs : List (Nat × Nat)) (i : Nat) : Bool := vs.any fun v => v.1.testBit i
def anyD (vs : List (Nat × Nat)) (i : Nat) : Bool := vs.any fun v => v.2.testBit i
def joinF (vs : List (Nat × Nat)) : Nat × Nat := (setF (anyA vs), setF (anyD vs))
theorem anyA_take (vs : List (Nat × Nat)) (k : Nat) (v : Nat × Nat) (h : vs[k]? = some v) (i : Nat) : (anyA (vs.take k) i || v.1.testBit i) = anyA (vs.take (k + 1)) i := by
  unfold anyA
  rw [List.take_add_one, h, List.any_append]
  simp
theorem anyD_take (vs : List (Nat × Nat)) (k : Nat) (v : Nat × Nat) (h : vs[k]? = some v) (i : Nat) : (anyD (vs.take k) i || v.2.testBit i) = anyD (vs.take (k + 1)) i := by
  unfold anyD
  rw [List.take_add_one, h, List.any_append]
  simp
end Go.Proofs.YtfblnomkafimhaaGreat.Chgw

namespace Go.Proofs.YtfblnomkafimhaaGreat.Chgw
set_option maxRecDepth 20000
open Go.RowKit
open Chg

/-- two cells of a view of any numbers, in a block of its own -/
def Vi (w : World) (g : Nat) (a d : Int) : Prop := w.heap[g]? = some (.cells #[.int .i64 a, .int .i64 d] 26)
theorem Vi.c0 {w : World} {g : Nat} {a d : Int} (h : Vi w g a d) : w.cell? ⟨g, 0, none⟩ = some (.int .i64 a) := by
  rw [cell_of_row _ _ _ _ _ _ h]; rfl
theorem Vi.c1 {w : World} {g : Nat} {a d : Int} (h : Vi w g a d) : w.cell? ⟨g, 1, none⟩ = some (.int .i64 d) := by
  rw [cell_of_row _ _ _ _ _ _ h]; rfl
theorem Vi.lt {w : World} {g : Nat} {a d : Int} (h : Vi w g a d) : g < w.heap.size := by
  rcases Nat.lt_or_ge g w.heap.size with h' | h'
  · exact h'
  · unfold Vi at h; rw [Array.getElem?_eq_none h'] at h; cases h
theorem Vi.below {w w' : World} {g : Nat} {a d : Int} (h : Vi w g a d) (hb : Below w.heap.size w w') : Vi w' g a d := (hb.block g h.lt).trans h
def flat (vs : List (Nat × Nat)) : List Value := vs.flatMap fun v => [.int .i64 (v.1 : Int), .int .i64 (v.2 : Int)]
theorem flat_at : ∀ (vs : List (Nat × Nat)) (j : Nat) (v : Nat × Nat), vs[j]? = some v → (flat vs)[j * 2]? = some (.int .i64 (v.1 : Int)) ∧ (flat vs)[j * 2 + 1]? = some (.int .i64 (v.2 : Int))
  | [], _, _, h => by simp at h
  | x :: l, 0, v, h => by
    simp only [List.getElem?_cons_zero, Option.some.injEq] at h
    subst h
    exact ⟨rfl, rfl⟩
  | x :: l, j + 1, v, h => by
    have ih := flat_at l j v (by simpa using h)
    have e : flat (x :: l) = .int .i64 (x.1 : Int) :: .int .i64 (x.2 : Int) :: flat l := rfl
    rw [e, show (j + 1) * 2 = j * 2 + 1 + 1 by omega, show j * 2 + 1 + 1 + 1 = (j * 2 + 1) + 1 + 1 by omega]
    simpa using ih
theorem rv_new (w : World) (vs : List (Nat × Nat)) : Rv (w.alloc (.cells (flat vs).toArray 26)) (w.heap.size + 1) (some ⟨w.heap.size, 0, none⟩) vs := by
  intro _
  refine ⟨_, _, rfl, by omega, fun j v hv => ?_⟩
  have h := flat_at vs j v hv
  rw [cell_of_row _ _ _ _ _ _ (heap_alloc_new w _), cell_of_row _ _ _ _ _ _ (heap_alloc_new w _)]
  simpa using h
theorem Rv.below {w w' : World} {B : Nat} {A : Option Addr} {vs : List (Nat × Nat)} (h : Rv w B A vs) (hb : Below B w w') : Rv w' B A vs := by
  intro hn
  obtain ⟨b, o, e, hB, hc⟩ := h hn
  exact ⟨b, o, e, hB, fun j v hv => ⟨(hb.cell (p := ⟨b, o + j * 2, none⟩) hB).trans (hc j v hv).1, (hb.cell (p := ⟨b, o + j * 2 + 1, none⟩) hB).trans (hc j v hv).2⟩⟩
theorem Rv.more {w : World} {B B' : Nat} {A : Option Addr} {vs : List (Nat × Nat)} (h : Rv w B A vs) (hB : B ≤ B') : Rv w B' A vs := by
  intro hn
  obtain ⟨b, o, e, hb, hc⟩ := h hn
  exact ⟨b, o, e, by omega, hc⟩
theorem join2 (a d b c : Nat) (ha : a < 64) (hd : d < 64) (hb : b < 64) (hc : c < 64) : joinF [(a, d), (b, c)] = (a ||| b, d ||| c) := by
  unfold joinF
  rw [← setF_or a b ha hb, ← setF_or d c hd hc]
  congr 1
  · exact setF_congr (fun k _ => by simp [anyA])
  · exact setF_congr (fun k _ => by simp [anyD])
end Go.Proofs.YtfblnomkafimhaaGreat.Chgw

namespace Go.Proofs.YtfblnomkafimhaaGreat.Chgw
set_option maxRecDepth 20000
open Go.RowKit
open Chg

theorem ret_i64 {a b : Int} (h : a = b) : Ending.returned (.int .i64 a) = .returned (.int .i64 b) := by rw [h]
theorem rn_c (a : Int) (w : World) : Calls Tryz.prog 124 #[.int .i64 a] w fun e w' => e = .returned (.bool (decide (0 ≤ a ∧ a ≤ 63))) ∧ w = w' := by
  go_enter Tryz.func124, Tryz.ntmps124
  go_wp2
  all_goals go_ret
  all_goals refine ⟨ret_bool ?_, rfl⟩
  all_goals
    rw [Bool.eq_iff_iff]
    simp
    omega
theorem right_c (a d : Int) (w : World) : Calls Tryz.prog 90 #[vw a d] w fun e w' => e = .returned (.bool (rightB a d)) ∧ Below w.heap.size w w' := by
  unfold vw
  go_enter Tryz.func90, Tryz.ntmps90
  go_wp2_with fail
  refine (rn_c a _).mono ?_
  rintro e w2 ⟨rfl, rfl⟩
  by_cases h : 0 ≤ a ∧ a ≤ 63
  · rw [decide_eq_true h]
    go_wp2_with fail
    refine (rn_c d _).mono ?_
    rintro e w2 ⟨rfl, rfl⟩
    go_wp2
    go_ret
    refine ⟨ret_bool ?_, bal (Below.refl _ _) (Nat.le_refl _) _⟩
    unfold rightB
    rw [Bool.eq_iff_iff]
    simp
    omega
  · rw [decide_eq_false h]
    go_wp2
    go_ret
    refine ⟨ret_bool ?_, bal (Below.refl _ _) (Nat.le_refl _) _⟩
    unfold rightB
    rw [Bool.eq_iff_iff]
    simp
    omega
theorem name_c (a d : Nat) (ha : a < 64) (hd : d < 64) (w : World) : Calls Tryz.prog 116 #[vw a d] w fun e w' => e = .returned (.int .i64 ((64 * a + d : Nat) : Int)) ∧ Below w.heap.size w w' := by
  unfold vw
  go_enter Tryz.func116, Tryz.ntmps116
  go_wp2
  go_ret
  exact ⟨ret_i64 (by omega), bal (Below.refl _ _) (Nat.le_refl _) _⟩
theorem or64 (a b : Nat) (ha : a < 64) (hb : b < 64) : bits .or .i64 (a : Int) (b : Int) = ((a ||| b : Nat) : Int) := by
  have h : ∀ a b : Fin 64, bits .or .i64 (a.val : Int) (b.val : Int) = ((a.val ||| b.val : Nat) : Int) := by decide +kernel
  exact h ⟨a, ha⟩ ⟨b, hb⟩
theorem joinF_snoc (vs : List (Nat × Nat)) (k : Nat) (v : Nat × Nat) (h : vs[k]? = some v) (h1 : v.1 < 64) (h2 : v.2 < 64) : joinF (vs.take (k + 1)) = ((joinF (vs.take k)).1 ||| v.1, (joinF (vs.take k)).2 ||| v.2) := by
  have l1 := setF_lt (anyA (vs.take k))
  have l2 := setF_lt (anyD (vs.take k))
  show (setF (anyA (vs.take (k + 1))), setF (anyD (vs.take (k + 1)))) = (setF (anyA (vs.take k)) ||| v.1, setF (anyD (vs.take k)) ||| v.2)
  rw [← setF_or _ _ l1 h1, ← setF_or _ _ l2 h2]
  congr 1
  · exact setF_congr fun i hi => by rw [setF_bit _ i hi, anyA_take vs k v h]
  · exact setF_congr fun i hi => by rw [setF_bit _ i hi, anyD_take vs k v h]
theorem join_c (A : Option Addr) (n c : Nat) (vs : List (Nat × Nat)) (hn : n = vs.length) (hl : n ≤ 140737488355328) (h64 : ∀ v ∈ vs, v.1 < 64 ∧ v.2 < 64) (B : Nat) (w : World) (hr : Rv w B A vs) (hB : B ≤ w.heap.size) :
    Calls Tryz.prog 70 #[.slice A n c] w fun e w' => e = .returned (vw (joinF vs).1 (joinF vs).2) ∧ Below w.heap.size w w' := by
  have HN := Lib.hid hn; clear hn
  have HR := Lib.hid hr; clear hr
  have H64 := Lib.hid h64; clear h64
  go_enter Tryz.func70, Tryz.ntmps70
  go_wp2
  go_loopw [8] (fun i wr => ∃ k : Nat, i = .int .i64 k ∧ k ≤ n ∧ Vx wr w.heap.size 0 0 ∧ Vx wr (w.heap.size + 1) (joinF (vs.take k)).1 (joinF (vs.take k)).2 ∧ Below w.heap.size w wr) (fun i _ => n - (intOf i).toNat)
  case atStart =>
    exact ⟨0, rfl, by omega, hbe (hat _ _ _ rfl), hat _ _ _ (by simp), bal (bal (Below.refl _ _) (Nat.le_refl _) _) (Nat.le_refl _) _⟩
  case round =>
    obtain ⟨k, rfl, hk, hv, hx, hbl⟩ := hrel
    have hlt := hx.lt
    have l1 : (joinF (vs.take k)).1 < 64 := setF_lt _
    have l2 : (joinF (vs.take k)).2 < 64 := setF_lt _
    have HP : Hid (∀ v, vs[k]? = some v → v.1 < 64 → v.2 < 64 → joinF (vs.take (k + 1)) = ((joinF (vs.take k)).1 ||| v.1, (joinF (vs.take k)).2 ||| v.2)) := Lib.hid (joinF_snoc vs k)
    have HQ : Hid (k = n → joinF vs = joinF (vs.take k)) := Lib.hid (fun h => by rw [List.take_of_length_le (by rw [← HN.out]; omega)])
    generalize joinF (vs.take k) = J at hx l1 l2 HP HQ
    obtain ⟨p, q⟩ := J
    have H1 := Lib.hid hv; have H2 := Lib.hid hx; have HB := Lib.hid hbl
    clear hv hx hbl
    by_cases h : k < n
    · obtain ⟨b, o, rfl, hbB, hcell⟩ := HR.out (by rw [← HN.out]; omega)
      have hkl : k < vs.length := by rw [← HN.out]; exact h
      have hz : vs[k]? = some vs[k] := List.getElem?_eq_getElem hkl
      have hc0 := hcell k vs[k] hz
      have hv64 := H64.out vs[k] (List.getElem_mem hkl)
      generalize vs[k] = v at hz hc0 hv64
      obtain ⟨va, vd⟩ := v
      have hca : wr.cell? ⟨b, o + k * 2, none⟩ = some (.int .i64 (va : Int)) := (HB.out.cell (by show b < _; omega)).trans hc0.1
      have hcd : wr.cell? ⟨b, o + k * 2 + 1, none⟩ = some (.int .i64 (vd : Int)) := (HB.out.cell (by show b < _; omega)).trans hc0.2
      have hva : va < 64 := hv64.1
      have hvd : vd < 64 := hv64.2
      have HJ : Hid (joinF (vs.take (k + 1)) = (p ||| va, q ||| vd)) := Lib.hid (HP.out _ hz hva hvd)
      clear hz hc0 hcell hkl hv64 HP HQ
      have z0 := H2.out.c0
      have z1 := H2.out.c1
      have z2 := frozen_of_row wr (w.heap.size + 1) 0 _ _ H2.out
      have z3 := frozen_of_row wr (w.heap.size + 1) 1 _ _ H2.out
      go_wp2
      rw [or64 p va l1 hva, or64 q vd l2 hvd]
      refine ⟨⟨k + 1, by go_num, by omega, hbe ((H1.out.other (by simp) _).other (by simp) _), ?_, bal ((HB.out.setCell (by simp) _).setCell (by simp) _) (by simp) _⟩, by simp [intOf]; omega⟩
      rw [HJ.out]
      exact hbe (H2.out.put _ _)
    · obtain rfl : k = n := by omega
      have HQ2 := Lib.hid (HQ.out rfl)
      clear HQ HP
      have z0 := H2.out.c0
      have z1 := H2.out.c1
      have y0 := H1.out.c0
      have y1 := H1.out.c1
      have y2 := frozen_of_row wr w.heap.size 0 _ _ H1.out
      have y3 := frozen_of_row wr w.heap.size 1 _ _ H1.out
      go_wp2
      refine bodyPost_ret (results_view (g := w.heap.size) rfl rfl (H1.out.put p q)) rfl ?_
      rw [HQ2.out]
      exact ⟨rfl, (HB.out.setCell (Nat.le_refl _) _).setCell (Nat.le_refl _) _⟩
def nodesN (ls : List Int) : Nat := if ls.all okN then setF (hasN ls) else 0
theorem within_c (a d : Nat) (ha : a < 64) (hd : d < 64) (b c : Nat) (hb : b < 64) (hc : c < 64) (w : World) : Calls Tryz.prog 33 #[vw a d, vw b c] w fun e w' => e = .returned (.bool (withinV a d b c)) ∧ Below w.heap.size w w' := by
  have heq := eq_view
  unfold vw
  go_enter Tryz.func33, Tryz.ntmps33
  go_wp2_with fail
  have V1 := Lib.hid (show Vx ((w.alloc (.cells #[.int .i64 (a : Int), .int .i64 (d : Int)] 26)).alloc (.cells #[.int .i64 (b : Int), .int .i64 (c : Int)] 26)) w.heap.size a d from hbe (hat _ _ _ rfl))
  have V2 := Lib.hid (show Vx ((w.alloc (.cells #[.int .i64 (a : Int), .int .i64 (d : Int)] 26)).alloc (.cells #[.int .i64 (b : Int), .int .i64 (c : Int)] 26)) (w.heap.size + 1) b c from hat _ _ _ (by simp))
  have HB := Lib.hid (bal (bal (Below.refl w.heap.size w) (Nat.le_refl _) (.cells #[.int .i64 (a : Int), .int .i64 (d : Int)] 26)) (Nat.le_refl _) (.cells #[.int .i64 (b : Int), .int .i64 (c : Int)] 26))
  generalize ((w.alloc (.cells #[.int .i64 (a : Int), .int .i64 (d : Int)] 26)).alloc (.cells #[.int .i64 (b : Int), .int .i64 (c : Int)] 26)) = w1 at V1 V2 HB ⊢
  have HK : Hid (∀ W', Below w1.heap.size w1 W' → (W'.cell? ⟨w.heap.size, 0, none⟩ = some (.int .i64 (a : Int)) ∧ W'.cell? ⟨w.heap.size, 1, none⟩ = some (.int .i64 (d : Int))) ∧ (W'.cell? ⟨w.heap.size + 1, 0, none⟩ = some (.int .i64 (b : Int)) ∧ W'.cell? ⟨w.heap.size + 1, 1, none⟩ = some (.int .i64 (c : Int)))) := Lib.hid (by
    intro W' h
    have V1 := V1.out.below h V1.out.lt
    have V2 := V2.out.below h V2.out.lt
    exact ⟨⟨V1.c0, V1.c1⟩, V2.c0, V2.c1⟩)
  refine wp_region_held_drew (S := fun W' => Below w1.heap.size w1 W') (by kernel_rfl) (Below.refl _ _).drew (fun hHeld => ?_)
  generalize w1.drew = w2 at hHeld ⊢
  have HB2 : Hid (Below w1.heap.size w1 w2) := hHeld
  clear hHeld
  refine take_in (i := 0) (oi := ⟨_, _, _, _, _, _⟩) (v := ?_) rfl (by kernel_rfl) (by kernel_rfl) (by kernel_rfl) (fun _ _ _ h => h) (by rfl) ?_ HB2.out ?_
  rotate_left
  · intro W hW; have hq := HK.out W hW; go_simp; with_reducible rfl
  simp only [Act.put, List.setIfInBounds_toArray, List.set_cons_zero, List.set_cons_succ]
  refine take_in (i := 1) (oi := ⟨_, _, _, _, _, _⟩) (v := ?_) rfl (by kernel_rfl) (by kernel_rfl) (by kernel_rfl) (fun _ _ _ h => h) (by rfl) ?_ HB2.out ?_
  rotate_left
  · intro W hW; have hq := HK.out W hW; go_simp; with_reducible rfl
  simp only [Act.put, List.setIfInBounds_toArray, List.set_cons_zero, List.set_cons_succ]
  refine take_in (i := 4) (oi := ⟨_, _, _, _, _, _⟩) (v := ?_) rfl (by kernel_rfl) (by kernel_rfl) (by kernel_rfl) (fun _ _ _ h => h) (by rfl) ?_ HB2.out ?_
  rotate_left
  · intro W hW; have hq := HK.out W hW; go_simp; with_reducible rfl
  simp only [Act.put, List.setIfInBounds_toArray, List.set_cons_zero, List.set_cons_succ]
  refine wpAnyH_ready (rs := [2]) (by kernel_rfl) (by simp) ?_
  refine AllReadyH.cons (o := ⟨_, _, _, _, _, _⟩) rfl (fun K hK => ?_) AllReadyH.nil
  go_simp
  refine hK.out _ _ (bal HB2.out (Nat.le_refl _) _) (fun _ => ?_)
  clear hK K
  have RX := Lib.hid ((show Rv (w2.alloc (.cells #[.int .i64 (a : Int), .int .i64 (d : Int), .int .i64 (b : Int), .int .i64 (c : Int)] 26)) (w2.heap.size + 1) (some ⟨w2.heap.size, 0, none⟩) [(a, d), (b, c)] from rv_new w2 [(a, d), (b, c)]).more (show w2.heap.size + 1 ≤ (w2.alloc (.cells #[.int .i64 (a : Int), .int .i64 (d : Int), .int .i64 (b : Int), .int .i64 (c : Int)] 26)).heap.size by simp))
  have HB3 := Lib.hid (bal HB2.out (Nat.le_refl _) (.cells #[.int .i64 (a : Int), .int .i64 (d : Int), .int .i64 (b : Int), .int .i64 (c : Int)] 26))
  generalize w2.alloc (.cells #[.int .i64 (a : Int), .int .i64 (d : Int), .int .i64 (b : Int), .int .i64 (c : Int)] 26) = w3 at RX HB3 ⊢
  generalize w2.heap.size = gRX at RX ⊢
  refine wpAnyH_ready (rs := [3]) (by kernel_rfl) (by simp) ?_
  refine AllReadyH.cons (o := ⟨_, _, _, _, _, _⟩) rfl (fun K hK => ?_) AllReadyH.nil
  go_simp
  refine (join_c _ 2 2 [(a, d), (b, c)] rfl (by omega) (by simp; omega) w3.heap.size _ RX.out (Nat.le_refl _)).mono ?_
  rw [join2 a d b c ha hd hb hc]
  rintro e w4 ⟨rfl, hb4⟩
  have HB4 := Lib.hid (HB3.out.trans (hb4.mono HB3.out.size)); clear hb4
  refine hK.out _ _ HB4.out (fun _ => ?_)
  clear hK K
  unfold vw
  refine take_in (i := 5) (oi := ⟨_, _, _, _, _, _⟩) (v := ?_) rfl (by kernel_rfl) (by kernel_rfl) (by kernel_rfl) (fun _ _ _ h => h) (by rfl) ?_ HB4.out ?_
  rotate_left
  · intro W hW; go_simp; with_reducible rfl
  simp only [Act.put, List.setIfInBounds_toArray, List.set_cons_zero, List.set_cons_succ]
  refine take_in (i := 6) (oi := ⟨_, _, _, _, _, _⟩) (v := ?_) rfl (by kernel_rfl) (by kernel_rfl) (by kernel_rfl) (fun _ _ _ h => h) (by rfl) ?_ HB4.out ?_
  rotate_left
  · intro W hW; go_simp; with_reducible rfl
  simp only [Act.put, List.setIfInBounds_toArray, List.set_cons_zero, List.set_cons_succ]
  refine wpAnyH_done (by kernel_rfl) ?_ _
  go_wp2
  go_ret
  refine ⟨ret_bool ?_, HB.out.trans (HB4.out.mono HB.out.size)⟩
  unfold withinV within
  have h : ∀ m n : Nat, ((m : Int) == (n : Int)) = (m == n) := fun m n => by rw [Bool.eq_iff_iff, beq_iff_eq, beq_iff_eq]; omega
  rw [h, h]
end Go.Proofs.YtfblnomkafimhaaGreat.Chgw
