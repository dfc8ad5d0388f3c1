/- The plain functions that package num computes on words, and what they have to do with float64's order. -/
import Derived.Test.YtjcpdhekilkhgaaFlt
import Derived.RowKit
namespace Go.Proofs.Ytjcpdhekilkhgaa
namespace Flt
open Ieee

def clean (b : Nat) : Nat := if isNan b = true then 9221120237041090561 else b
def kind (b : Nat) : Int :=
  if 9218868437227405312 < b % 9223372036854775808 then 0 else if b % 9223372036854775808 = 9218868437227405312 then 1
  else if b % 9223372036854775808 = 0 then 4 else if b % 9223372036854775808 < 4503599627370496 then 3 else 2
def rank (b : Nat) : Nat :=
  if isNan b = true then 18446744073709551615 else if 9223372036854775808 ≤ b then 9223372036854775807 - b % 9223372036854775808 else 9223372036854775808 + b
def lessB (a b : Nat) : Bool := decide (rank a < rank b)
def sameB (a b : Nat) : Bool := decide (clean a = clean b)
def infB (b : Nat) : Bool := decide (b % 9223372036854775808 = 9218868437227405312)
def negB (b : Nat) : Bool := decide (9223372036854775808 ≤ b)
def U64 (n : Nat) : Prop := n < 18446744073709551616

theorem isNan_iff (b : Nat) : isNan b = true ↔ 9218868437227405312 < b % 9223372036854775808 := decide_eq_true_iff
theorem isNan_false_iff (b : Nat) : isNan b = false ↔ ¬ 9218868437227405312 < b % 9223372036854775808 := decide_eq_false_iff_not

theorem fmt : FloatKind.f64.format = double := rfl

theorem neq_self (b : Nat) : (FloatKind.f64.format.order b b != some .eq) = isNan b := by
  rw [fmt]
  cases h : isNan b
  · rw [order_eq b b h h]; simp
  · rw [order_nan_left b b h]; rfl

theorem cmp_eq_bool (a b : Int) : (some (compare a b) == some Ordering.eq) = decide (a = b) := by
  simp only [compare, compareOfLessAndEq]
  by_cases h : a < b
  · rw [if_pos h]; have : ¬ a = b := by omega
    simp [this]
  · by_cases g : a = b
    · simp [g]
    · simp [h, g]
theorem cmp_lt_bool (a b : Int) : (some (compare a b) == some Ordering.lt) = decide (a < b) := by
  simp only [compare, compareOfLessAndEq]
  by_cases h : a < b
  · simp [h]
  · by_cases g : a = b
    · simp [g]
    · simp [h, g]
theorem cmp_gt_bool (a b : Int) : (some (compare a b) == some Ordering.gt) = decide (b < a) := by
  simp only [compare, compareOfLessAndEq]
  by_cases h : a < b
  · have : ¬ b < a := by omega
    simp [h, this]
  · by_cases g : a = b
    · simp [g]
    · have : b < a := by omega
      simp [h, g, this]

theorem feq (a b : Nat) (ha : isNan a = false) (hb : isNan b = false) : (FloatKind.f64.format.order a b == some .eq) = decide (key a = key b) := by
  rw [fmt, order_eq a b ha hb, cmp_eq_bool]
theorem flt (a b : Nat) (ha : isNan a = false) (hb : isNan b = false) : (FloatKind.f64.format.order a b == some .lt) = decide (key a < key b) := by
  rw [fmt, order_eq a b ha hb, cmp_lt_bool]
theorem fgt (a b : Nat) (ha : isNan a = false) (hb : isNan b = false) : (FloatKind.f64.format.order a b == some .gt) = decide (key b < key a) := by
  rw [fmt, order_eq a b ha hb, cmp_gt_bool]

theorem abs_bits (b : Nat) (h : U64 b) : (bits BinOp.andNot IntKind.u64 (b : Int) 9223372036854775808).toNat = b % 9223372036854775808 := by
  have e := u64_andNot_nat b 9223372036854775808 h (by omega)
  have e2 : ((9223372036854775808 : Nat) : Int) = (9223372036854775808 : Int) := rfl
  rw [e2] at e
  rw [e, Int.toNat_natCast]
  exact Nat.and_two_pow_sub_one_eq_mod b 63

theorem neg_bool (b : Nat) (h : U64 b) : decide (RowKit.wrap64 (b : Int) < 0) = negB b := by
  unfold U64 at h
  unfold negB
  rw [decide_eq_decide]
  unfold RowKit.wrap64
  omega

theorem abs_lt (b : Nat) : b % 9223372036854775808 < 9223372036854775808 := by omega

/-- 'Abs(x) > MaxFloat64' -/
theorem inf_bool (b : Nat) (hn : isNan b = false) : (FloatKind.f64.format.order (b % 9223372036854775808) 9218868437227405311 == some .gt) = infB b := by
  have hn' := (isNan_false_iff b).1 hn
  rw [fgt _ _ ((isNan_false_iff _).2 (by omega)) (by decide), key_lo _ (by omega), key_lo _ (by omega)]
  unfold infB
  rw [decide_eq_decide]
  omega

theorem zero_bool (b : Nat) (h : U64 b) (hn : isNan b = false) : (FloatKind.f64.format.order b 0 == some .eq) = decide (b % 9223372036854775808 = 0) := by
  unfold U64 at h
  rw [feq _ _ hn (by decide), key_lo 0 (by omega), decide_eq_decide]
  by_cases h0 : b < 9223372036854775808
  · rw [key_lo _ h0]; omega
  · rw [key_hi _ h0 h]; omega

theorem sub_bool (b : Nat) (hn : isNan b = false) : (FloatKind.f64.format.order (b % 9223372036854775808) 4503599627370496 == some .lt) = decide (b % 9223372036854775808 < 4503599627370496) := by
  have hn' := (isNan_false_iff b).1 hn
  rw [flt _ _ ((isNan_false_iff _).2 (by omega)) (by decide), key_lo _ (by omega), key_lo _ (by omega), decide_eq_decide]
  omega

theorem less_bool (a b : Nat) (ha : U64 a) (hb : U64 b) (na : isNan a = false) (nb : isNan b = false) (hz : ¬ (a % 9223372036854775808 = 0 ∧ b % 9223372036854775808 = 0)) :
    (FloatKind.f64.format.order a b == some .lt) = lessB a b := by
  unfold U64 at ha hb
  rw [flt a b na nb]
  have na' := (isNan_false_iff a).1 na
  have nb' := (isNan_false_iff b).1 nb
  unfold lessB rank
  rw [decide_eq_decide, na, nb]
  simp only [Bool.false_eq_true, if_false]
  by_cases h0 : a < 9223372036854775808 <;> by_cases h1 : b < 9223372036854775808
  · rw [key_lo a h0, key_lo b h1, if_neg (by omega), if_neg (by omega)]; omega
  · rw [key_lo a h0, key_hi b h1 hb, if_neg (by omega), if_pos (by omega)]; omega
  · rw [key_hi a h0 ha, key_lo b h1, if_pos (by omega), if_neg (by omega)]; omega
  · rw [key_hi a h0 ha, key_hi b h1 hb, if_pos (by omega), if_pos (by omega)]; omega

theorem less_zero (a b : Nat) (ha : U64 a) (hb : U64 b) (za : a % 9223372036854775808 = 0) (zb : b % 9223372036854775808 = 0) : lessB a b = (negB a && !negB b) := by
  unfold U64 at ha hb
  have na : isNan a = false := (isNan_false_iff a).2 (by omega)
  have nb : isNan b = false := (isNan_false_iff b).2 (by omega)
  unfold lessB rank negB
  rw [na, nb]
  simp only [Bool.false_eq_true, if_false]
  have ea : a = 0 ∨ a = 9223372036854775808 := by omega
  have eb : b = 0 ∨ b = 9223372036854775808 := by omega
  rcases ea with rfl | rfl <;> rcases eb with rfl | rfl <;> decide

theorem less_nan_left (a b : Nat) (hb : U64 b) (h : isNan a = true) : lessB a b = false := by
  unfold U64 at hb
  unfold lessB rank
  rw [h]
  simp only [if_true, decide_eq_false_iff_not]
  split
  · omega
  · split <;> rename_i h1 h2 <;> (try omega)

theorem less_nan_right (a b : Nat) (ha : U64 a) (na : isNan a = false) (h : isNan b = true) : lessB a b = true := by
  unfold U64 at ha
  have na' := (isNan_false_iff a).1 na
  unfold lessB rank
  rw [h, na]
  simp only [if_true, Bool.false_eq_true, if_false, decide_eq_true_eq]
  split <;> omega

theorem clean_U64 (b : Nat) (h : U64 b) : U64 (clean b) := by
  unfold clean U64 at *
  split <;> omega
theorem clean_nan (b : Nat) (h : isNan b = true) : clean b = 9221120237041090561 := by unfold clean; rw [if_pos h]
theorem clean_num (b : Nat) (h : isNan b = false) : clean b = b := by unfold clean; rw [if_neg (by simp [h])]
theorem isNan_canon : isNan 9221120237041090561 = true := by decide
theorem isNan_clean (b : Nat) : isNan (clean b) = isNan b := by
  cases h : isNan b
  · rw [clean_num b h, h]
  · rw [clean_nan b h]; decide
theorem clean_clean (b : Nat) : clean (clean b) = clean b := by
  cases h : isNan b
  · rw [clean_num b h, clean_num b h]
  · rw [clean_nan b h]; decide
end Flt
end Go.Proofs.Ytjcpdhekilkhgaa
