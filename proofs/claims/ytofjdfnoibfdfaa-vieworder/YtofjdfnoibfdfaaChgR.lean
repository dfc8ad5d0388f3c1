/- What the document's functions of layer 4 answer: contracts by walks. -/
import Derived.Test.YtofjdfnoibfdfaaMem
import Derived.Test.YtofjdfnoibfdfaaChgP
import Derived.Test.YtofjdfnoibfdfaaReg
import Derived.BigQuiet
import Derived.Deep.QuietTactic
import Derived.WalkSpells
import Derived.Handy
import Derived.Deep.DeepCutAuto
namespace Go.Proofs.Ytofjdfnoibfdfaa
open Go.RowKit
open Chg

theorem bal {B : Nat} {w0 w : World} (h : Below B w0 w) (hB : B ≤ w0.heap.size) (o : Obj) : Below B w0 (w.alloc o) := h.alloc (Nat.le_trans hB h.size) o

/-- a view as a value -/
def vw (a d : Int) : Value := .agg #[.int .i64 a, .int .i64 d]

def rightB (a d : Int) : Bool := decide (0 ≤ a ∧ a ≤ 63 ∧ 0 ≤ d ∧ d ≤ 63)
theorem ret_bool {a b : Bool} (h : a = b) : Ending.returned (.bool a) = .returned (.bool b) := by rw [h]

theorem bit_r (s k : Nat) (hs : s ≤ 1000000) (hk : k ≤ 64) (w : World) : Calls Try.prog 44 #[.int .i64 (s : Int), .int .i64 (k : Int)] w fun e w' => e = .returned (.bool (s.testBit k)) ∧ w = w' := by
  go_enter Try.func44, Try.ntmps44
  go_wp2
  go_loop [0, 5] (fun v i => ∃ j : Nat, v = .int .i64 ((s / 2 ^ j : Nat) : Int) ∧ i = .int .i64 j ∧ j ≤ k) (fun _ i => k - (intOf i).toNat)
  case atStart => exact ⟨0, by simp, rfl, by omega⟩
  case round =>
    obtain ⟨j, rfl, rfl, hj⟩ := hrel
    have hle := Nat.div_le_self s (2 ^ j)
    obtain ⟨q, hq⟩ : ∃ q, q = s / 2 ^ j := ⟨_, rfl⟩
    rw [← hq] at hle ⊢
    have HQ := Lib.hid hq; clear hq
    by_cases h : j < k
    · go_wp2
      refine ⟨⟨j + 1, ?_, by go_num, by omega⟩, by simp [intOf]; omega⟩
      rw [Nat.pow_succ, ← Nat.div_div_eq_div_mul, ← HQ.out]
      rfl
    · go_wp2
      go_ret
      obtain rfl : j = k := by omega
      refine ⟨ret_bool ?_, rfl⟩
      rw [Nat.testBit_eq_decide_div_mod_eq, ← HQ.out, Bool.eq_iff_iff, beq_iff_eq, decide_eq_true_iff]
      omega

theorem right_r (a d : Int) (w : World) : Calls Try.prog 14 #[vw a d] w fun e w' => e = .returned (.bool (rightB a d)) ∧ Below w.heap.size w w' := by
  unfold vw
  go_enter Try.func14, Try.ntmps14
  go_wp2
  all_goals go_ret
  all_goals refine ⟨ret_bool ?_, (Below.refl _ _).alloc (Nat.le_refl _) _⟩
  all_goals
    unfold rightB
    rw [Bool.eq_iff_iff]
    simp
    omega
theorem name_r (a d : Nat) (ha : a < 64) (hd : d < 64) (w : World) : Calls Try.prog 34 #[vw a d] w fun e w' => e = .returned (.int .i64 ((64 * a + d : Nat) : Int)) ∧ Below w.heap.size w w' := by
  unfold vw
  go_enter Try.func34, Try.ntmps34
  go_wp2
  go_ret
  exact ⟨rfl, (Below.refl _ _).alloc (Nat.le_refl _) _⟩
theorem has_r (a d : Nat) (ha : a < 64) (hd : d < 64) (k : Nat) (hk : k ≤ 64) (w : World) : Calls Try.prog 32 #[vw a d, .int .i64 (k : Int)] w fun e w' => e = .returned (.tuple #[.bool (a.testBit k), .bool (d.testBit k)]) ∧ Below w.heap.size w w' := by
  unfold vw
  go_enter Try.func32, Try.ntmps32
  go_wp2
  go_quiet (first | (go_at_call 44; refine Calls.quiet_of_same ((bit_r _ k ?_ hk _).mono fun _ _ h => ⟨h.1, h.2.symm⟩); omega))
  go_wp2
  go_ret2
  exact ⟨rfl, ((Below.refl _ _).alloc (Nat.le_refl _) _).trans ⟨rfl, rfl, rfl, Nat.le_refl _, fun _ _ => rfl⟩⟩

/-- the number whose lowest bits these are, the first k of them -/
def acc (l : List Bool) : Nat → Nat
  | 0 => 0
  | k + 1 => acc l k + if l.getD k false then 2 ^ k else 0
theorem acc_lt (l : List Bool) (k : Nat) : acc l k < 2 ^ k := by
  induction k with
  | zero => simp [acc]
  | succ k ih =>
    unfold acc
    rw [Nat.pow_succ]
    split <;> omega
theorem acc_six (f : Nat → Bool) : acc [f 0, f 1, f 2, f 3, f 4, f 5] 6 = setF f := by
  unfold setF
  simp [acc]
def arr6 (f : Nat → Bool) : Value := .agg #[.bool (f 0), .bool (f 1), .bool (f 2), .bool (f 3), .bool (f 4), .bool (f 5)]

theorem set_six (b0 b1 b2 b3 b4 b5 c0 c1 c2 c3 c4 c5 : Bool) (w : World) : Calls Try.prog 58 #[.agg #[.bool b0, .bool b1, .bool b2, .bool b3, .bool b4, .bool b5], .agg #[.bool c0, .bool c1, .bool c2, .bool c3, .bool c4, .bool c5]] w fun e w' => e = .returned (vw (acc [b0, b1, b2, b3, b4, b5] 6) (acc [c0, c1, c2, c3, c4, c5] 6)) ∧ Below w.heap.size w w' := by
  go_enter Try.func58, Try.ntmps58
  go_wp2
  go_loopw [6, 7] (fun v i wr => ∃ k p q : Nat, v = .int .i64 ((2 ^ k : Nat) : Int) ∧ i = .int .i64 k ∧ k ≤ 6 ∧ wr = (((w.alloc (.cells #[.bool b0, .bool b1, .bool b2, .bool b3, .bool b4, .bool b5] 68)).alloc (.cells #[.bool c0, .bool c1, .bool c2, .bool c3, .bool c4, .bool c5] 68)).alloc (.cells #[.int .i64 0, .int .i64 0] 25)).alloc (.cells #[.int .i64 (p : Int), .int .i64 (q : Int)] 25) ∧ p = acc [b0, b1, b2, b3, b4, b5] k ∧ q = acc [c0, c1, c2, c3, c4, c5] k) (fun _ i _ => 6 - (intOf i).toNat)
  case atStart => exact ⟨0, 0, 0, rfl, rfl, by omega, rfl, rfl, rfl⟩
  case round =>
    obtain ⟨k, p, q, rfl, rfl, hk, rfl, hp, hq⟩ := hrel
    have HP := Lib.hid hp; clear hp
    have HQ := Lib.hid hq; clear hq
    obtain rfl | rfl | rfl | rfl | rfl | rfl | rfl : k = 0 ∨ k = 1 ∨ k = 2 ∨ k = 3 ∨ k = 4 ∨ k = 5 ∨ k = 6 := by omega
    · have hp0 : p < 1 := by rw [HP.out]; exact acc_lt _ _
      have hq0 : q < 1 := by rw [HQ.out]; exact acc_lt _ _
      cases b0 <;> cases c0
      · go_wp2
        exact ⟨⟨1, p, q, rfl, rfl, by omega, rfl, by rw [HP.out]; rfl, by rw [HQ.out]; rfl⟩, by simp [intOf]⟩
      · go_wp2
        exact ⟨⟨1, p, q + 1, rfl, rfl, by omega, rfl, by rw [HP.out]; rfl, by rw [HQ.out]; rfl⟩, by simp [intOf]⟩
      · go_wp2
        exact ⟨⟨1, p + 1, q, rfl, rfl, by omega, rfl, by rw [HP.out]; rfl, by rw [HQ.out]; rfl⟩, by simp [intOf]⟩
      · go_wp2
        exact ⟨⟨1, p + 1, q + 1, rfl, rfl, by omega, rfl, by rw [HP.out]; rfl, by rw [HQ.out]; rfl⟩, by simp [intOf]⟩
    · have hp0 : p < 2 := by rw [HP.out]; exact acc_lt _ _
      have hq0 : q < 2 := by rw [HQ.out]; exact acc_lt _ _
      cases b1 <;> cases c1
      · go_wp2
        exact ⟨⟨2, p, q, rfl, rfl, by omega, rfl, by rw [HP.out]; rfl, by rw [HQ.out]; rfl⟩, by simp [intOf]⟩
      · go_wp2
        exact ⟨⟨2, p, q + 2, rfl, rfl, by omega, rfl, by rw [HP.out]; rfl, by rw [HQ.out]; rfl⟩, by simp [intOf]⟩
      · go_wp2
        exact ⟨⟨2, p + 2, q, rfl, rfl, by omega, rfl, by rw [HP.out]; rfl, by rw [HQ.out]; rfl⟩, by simp [intOf]⟩
      · go_wp2
        exact ⟨⟨2, p + 2, q + 2, rfl, rfl, by omega, rfl, by rw [HP.out]; rfl, by rw [HQ.out]; rfl⟩, by simp [intOf]⟩
    · have hp0 : p < 4 := by rw [HP.out]; exact acc_lt _ _
      have hq0 : q < 4 := by rw [HQ.out]; exact acc_lt _ _
      cases b2 <;> cases c2
      · go_wp2
        exact ⟨⟨3, p, q, rfl, rfl, by omega, rfl, by rw [HP.out]; rfl, by rw [HQ.out]; rfl⟩, by simp [intOf]⟩
      · go_wp2
        exact ⟨⟨3, p, q + 4, rfl, rfl, by omega, rfl, by rw [HP.out]; rfl, by rw [HQ.out]; rfl⟩, by simp [intOf]⟩
      · go_wp2
        exact ⟨⟨3, p + 4, q, rfl, rfl, by omega, rfl, by rw [HP.out]; rfl, by rw [HQ.out]; rfl⟩, by simp [intOf]⟩
      · go_wp2
        exact ⟨⟨3, p + 4, q + 4, rfl, rfl, by omega, rfl, by rw [HP.out]; rfl, by rw [HQ.out]; rfl⟩, by simp [intOf]⟩
    · have hp0 : p < 8 := by rw [HP.out]; exact acc_lt _ _
      have hq0 : q < 8 := by rw [HQ.out]; exact acc_lt _ _
      cases b3 <;> cases c3
      · go_wp2
        exact ⟨⟨4, p, q, rfl, rfl, by omega, rfl, by rw [HP.out]; rfl, by rw [HQ.out]; rfl⟩, by simp [intOf]⟩
      · go_wp2
        exact ⟨⟨4, p, q + 8, rfl, rfl, by omega, rfl, by rw [HP.out]; rfl, by rw [HQ.out]; rfl⟩, by simp [intOf]⟩
      · go_wp2
        exact ⟨⟨4, p + 8, q, rfl, rfl, by omega, rfl, by rw [HP.out]; rfl, by rw [HQ.out]; rfl⟩, by simp [intOf]⟩
      · go_wp2
        exact ⟨⟨4, p + 8, q + 8, rfl, rfl, by omega, rfl, by rw [HP.out]; rfl, by rw [HQ.out]; rfl⟩, by simp [intOf]⟩
    · have hp0 : p < 16 := by rw [HP.out]; exact acc_lt _ _
      have hq0 : q < 16 := by rw [HQ.out]; exact acc_lt _ _
      cases b4 <;> cases c4
      · go_wp2
        exact ⟨⟨5, p, q, rfl, rfl, by omega, rfl, by rw [HP.out]; rfl, by rw [HQ.out]; rfl⟩, by simp [intOf]⟩
      · go_wp2
        exact ⟨⟨5, p, q + 16, rfl, rfl, by omega, rfl, by rw [HP.out]; rfl, by rw [HQ.out]; rfl⟩, by simp [intOf]⟩
      · go_wp2
        exact ⟨⟨5, p + 16, q, rfl, rfl, by omega, rfl, by rw [HP.out]; rfl, by rw [HQ.out]; rfl⟩, by simp [intOf]⟩
      · go_wp2
        exact ⟨⟨5, p + 16, q + 16, rfl, rfl, by omega, rfl, by rw [HP.out]; rfl, by rw [HQ.out]; rfl⟩, by simp [intOf]⟩
    · have hp0 : p < 32 := by rw [HP.out]; exact acc_lt _ _
      have hq0 : q < 32 := by rw [HQ.out]; exact acc_lt _ _
      cases b5 <;> cases c5
      · go_wp2
        exact ⟨⟨6, p, q, rfl, rfl, by omega, rfl, by rw [HP.out]; rfl, by rw [HQ.out]; rfl⟩, by simp [intOf]⟩
      · go_wp2
        exact ⟨⟨6, p, q + 32, rfl, rfl, by omega, rfl, by rw [HP.out]; rfl, by rw [HQ.out]; rfl⟩, by simp [intOf]⟩
      · go_wp2
        exact ⟨⟨6, p + 32, q, rfl, rfl, by omega, rfl, by rw [HP.out]; rfl, by rw [HQ.out]; rfl⟩, by simp [intOf]⟩
      · go_wp2
        exact ⟨⟨6, p + 32, q + 32, rfl, rfl, by omega, rfl, by rw [HP.out]; rfl, by rw [HQ.out]; rfl⟩, by simp [intOf]⟩
    · go_wp2
      go_returns
      exact ⟨by rw [HP.out, HQ.out]; rfl, bal (bal (bal (bal (Below.refl _ _) (Nat.le_refl _) _) (Nat.le_refl _) _) (Nat.le_refl _) _) (Nat.le_refl _) _⟩
theorem set_r (f g : Nat → Bool) (w : World) : Calls Try.prog 58 #[arr6 f, arr6 g] w fun e w' => e = .returned (vw (setF f) (setF g)) ∧ Below w.heap.size w w' := by
  have := set_six (f 0) (f 1) (f 2) (f 3) (f 4) (f 5) (g 0) (g 1) (g 2) (g 3) (g 4) (g 5) w
  rw [acc_six, acc_six] at this
  exact this
end Go.Proofs.Ytofjdfnoibfdfaa
