/- What Bits and Same of package num, the document's Bits, and what these call answer: for later layers. -/
import Derived.Test.YtjcpdhekilkhgaaChecked
import Derived.Test.YtjcpdhekilkhgaaNumP
import Derived.WalkKit
import Derived.Lib.Hide
import Derived.Laws.Cover2
import Derived.Laws.Externs
import Derived.Laws.Bits64b
namespace Go.Proofs.Ytjcpdhekilkhgaa.Nmw
open Go.RowKit
open Flt

theorem tobits (b : Nat) (w : World) : (callFunc 42 #[.float .f64 b]).run Try.prog w = .ok (.value (.int .u64 b)) w :=
  run_callFunc_extern Try.func42 (by kernel_rfl) (by kernel_rfl) (by kernel_rfl) (e := Extern.MathFloatBits.float64bits) (by kernel_rfl) _ w
theorem isnan_c (b : Nat) (w : World) : Calls Try.prog 44 #[.float .f64 b] w fun e w' => e = .returned (.bool (isNan b)) ∧ w = w' := by
  go_enter Try.func44, Try.ntmps44
  go_wp2
  go_ret
  exact ⟨congrArg (fun x => Ending.returned (Value.bool x)) (neq_self b), rfl⟩
theorem ret_bool {a b : Bool} (h : a = b) : Ending.returned (.bool a) = .returned (.bool b) := by rw [h]
theorem ret_int {k : IntKind} {a b : Int} (h : a = b) : Ending.returned (.int k a) = .returned (.int k b) := by rw [h]
theorem ret_flt {k : FloatKind} {a b : Nat} (h : a = b) : Ending.returned (.float k a) = .returned (.float k b) := by rw [h]

theorem bits_c (b : Nat) (w : World) : Calls Try.prog 40 #[.float .f64 b] w fun e w' => e = .returned (.int .u64 (clean b)) ∧ w = w' := by
  have h2 := tobits
  by_cases hn : isNan b = true
  · have hc := clean_nan b hn
    go_enter Try.func40, Try.ntmps40
    go_wp2_with (go_at_call 44; refine (isnan_c _ _).mono ?_; rintro e w' ⟨rfl, rfl⟩)
    go_ret
    exact ⟨by rw [hc]; rfl, rfl⟩
  · have hn : isNan b = false := by simpa using hn
    have hc := clean_num b hn
    go_enter Try.func40, Try.ntmps40
    go_wp2_with (go_at_call 44; refine (isnan_c _ _).mono ?_; rintro e w' ⟨rfl, rfl⟩)
    go_ret
    exact ⟨by rw [hc]; rfl, rfl⟩
theorem same_bool (a b : Nat) : ((clean a : Int) == (clean b : Int)) = sameB a b := by
  unfold sameB
  rw [Bool.eq_iff_iff, beq_iff_eq, decide_eq_true_iff]
  omega

theorem same_c (a b : Nat) (w : World) : Calls Try.prog 32 #[.float .f64 a, .float .f64 b] w fun e w' => e = .returned (.bool (sameB a b)) ∧ w = w' := by
  go_enter Try.func32, Try.ntmps32
  go_wp2_with (go_at_call 40; refine (bits_c _ _).mono ?_; rintro e w' ⟨rfl, rfl⟩)
  go_ret
  exact ⟨ret_bool (same_bool a b), rfl⟩
theorem and_2047 (n : Nat) (h : U64 n) : bits BinOp.and IntKind.u64 ((n : Int) / 4503599627370496) 2047 = ((n / 4503599627370496 % 2048 : Nat) : Int) := by
  unfold U64 at h
  have e : ((n : Int) / 4503599627370496) = ((n / 4503599627370496 : Nat) : Int) := by omega
  have g := bits_and_u64_nat (n / 4503599627370496) 2047 (by omega) (by omega)
  rw [e]
  refine g.trans ?_
  rw [show (2047 : Nat) = 2 ^ 11 - 1 from rfl, Nat.and_two_pow_sub_one_eq_mod]
theorem and_52 (n : Nat) (h : U64 n) : bits BinOp.and IntKind.u64 (n : Int) 4503599627370495 = ((n % 4503599627370496 : Nat) : Int) := by
  unfold U64 at h
  have g := bits_and_u64_nat n 4503599627370495 h (by omega)
  refine g.trans ?_
  rw [show (4503599627370495 : Nat) = 2 ^ 52 - 1 from rfl, Nat.and_two_pow_sub_one_eq_mod]
def pS (n : Nat) : Int := ((n / 9223372036854775808 : Nat) : Int)
def pE (n : Nat) : Int := ((n / 4503599627370496 % 2048 : Nat) : Int)
def pF (n : Nat) : Int := ((n % 4503599627370496 : Nat) : Int)
theorem ret_3 {a b c a' b' c' : Int} (h1 : a = a') (h2 : b = b') (h3 : c = c') : Ending.returned (.tuple #[.int .u64 a, .int .u64 b, .int .u64 c]) = .returned (.tuple #[.int .u64 a', .int .u64 b', .int .u64 c']) := by rw [h1, h2, h3]

theorem parts_c (n : Nat) (w : World) (h : U64 n) : Calls Try.prog 45 #[.int .u64 n] w fun e w' => e = .returned (.tuple #[.int .u64 (pS n), .int .u64 (pE n), .int .u64 (pF n)]) ∧ w = w' := by
  go_enter Try.func45, Try.ntmps45
  go_wp2
  go_ret3
  exact ⟨ret_3 (by unfold pS; omega) (and_2047 n h) (and_52 n h), rfl⟩

theorem pE_bool (n : Nat) (c : Bool) (h : decide (9218868437227405312 ≤ n % 9223372036854775808) = c) : (pE n == 2047) = c := by
  rw [← h, Bool.eq_iff_iff, beq_iff_eq, decide_eq_true_iff]; unfold pE; omega
theorem pE0_bool (n : Nat) (c : Bool) (h : decide (4503599627370496 ≤ n % 9223372036854775808) = c) : (pE n != 0) = c := by
  rw [← h, Bool.eq_iff_iff, bne_iff_ne, decide_eq_true_iff]; unfold pE; omega
theorem pF_bool (n : Nat) (c : Bool) (h : decide (n % 4503599627370496 ≠ 0) = c) : (pF n != 0) = c := by
  rw [← h, Bool.eq_iff_iff, bne_iff_ne, decide_eq_true_iff]; unfold pF; omega
theorem pS_bool (n : Nat) (hn : U64 n) (c : Bool) (h : negB n = c) : (pS n == 1) = c := by
  unfold U64 at hn
  rw [← h, Bool.eq_iff_iff, beq_iff_eq]; unfold negB pS; rw [decide_eq_true_iff]; omega

theorem refclean_c (n : Nat) (w : World) (h : U64 n) : Calls Try.prog 41 #[.int .u64 n] w fun e w' => e = .returned (.int .u64 (clean n)) ∧ w = w' := by
  by_cases h1 : 9218868437227405312 ≤ n % 9223372036854775808
  · have e1 := pE_bool n true (decide_eq_true h1)
    by_cases h2 : n % 4503599627370496 = 0
    · have e2 := pF_bool n false (decide_eq_false (by omega))
      have hc := Lib.hid (clean_num n ((isNan_false_iff n).2 (by omega)))
      clear h1 h2
      go_enter Try.func41, Try.ntmps41
      go_wp2_with (go_at_call 45; refine (parts_c _ _ h).mono ?_; rintro e w' ⟨rfl, rfl⟩)
      go_ret
      exact ⟨by rw [hc.out]; rfl, rfl⟩
    · have e2 := pF_bool n true (decide_eq_true (by omega))
      have hc := Lib.hid (clean_nan n ((isNan_iff n).2 (by omega)))
      clear h1 h2
      go_enter Try.func41, Try.ntmps41
      go_wp2_with (go_at_call 45; refine (parts_c _ _ h).mono ?_; rintro e w' ⟨rfl, rfl⟩)
      go_ret
      exact ⟨by rw [hc.out]; rfl, rfl⟩
  · have e1 := pE_bool n false (decide_eq_false h1)
    have hc := Lib.hid (clean_num n ((isNan_false_iff n).2 (by omega)))
    clear h1
    go_enter Try.func41, Try.ntmps41
    go_wp2_with (go_at_call 45; refine (parts_c _ _ h).mono ?_; rintro e w' ⟨rfl, rfl⟩)
    go_ret
    exact ⟨by rw [hc.out]; rfl, rfl⟩

theorem refbits_c (b : Nat) (w : World) (h : U64 b) : Calls Try.prog 34 #[.float .f64 b] w fun e w' => e = .returned (.int .u64 (clean b)) ∧ w = w' := by
  have h2 := tobits
  go_enter Try.func34, Try.ntmps34
  go_wp2_with (go_at_call 41; refine (refclean_c _ _ h).mono ?_; rintro e w' ⟨rfl, rfl⟩)
  go_ret
  exact ⟨rfl, rfl⟩
end Go.Proofs.Ytjcpdhekilkhgaa.Nmw
