/- Plain lemmas for the statements of layer 1. -/
import Derived.Test.YtknmgomfhppgeaaNumD
import Derived.Laws.Bits64
namespace Go.Proofs.Ytknmgomfhppgeaa
open Go.RowKit
open Flt
theorem wf_u64 {a : Int} (h : (Lit.int .u64 a).wf = true) : 0 ≤ a ∧ U64 a.toNat := by
  simp only [Lit.wf, decide_eq_true_eq, Bool.and_eq_true, IntKind.min, IntKind.max, IntKind.signed, IntKind.bits] at h
  unfold U64
  simp at h
  omega
theorem wf_f64 {b : Nat} (h : (Lit.float .f64 b).wf = true) : U64 b := by
  simp only [Lit.wf, decide_eq_true_eq] at h
  unfold U64
  exact h
theorem kind_clean (b : Nat) : kind (clean b) = kind b := by
  cases h : isNan b
  · rw [clean_num b h]
  · rw [clean_nan b h]
    have h1 := (isNan_iff b).1 h
    unfold kind; rw [if_pos h1]; decide
theorem rank_clean (b : Nat) : rank (clean b) = rank b := by
  cases h : isNan b
  · rw [clean_num b h]
  · rw [clean_nan b h]
    unfold rank; rw [if_pos h]; decide
theorem lessB_clean (a b : Nat) : lessB (clean a) (clean b) = lessB a b := by unfold lessB; rw [rank_clean, rank_clean]
theorem sameB_clean (a b : Nat) : sameB (clean a) (clean b) = sameB a b := by unfold sameB; rw [clean_clean, clean_clean]
theorem same_int (a b : Nat) : sameB (clean a) (clean b) = ((clean a : Int) == (clean b : Int)) := by
  rw [sameB_clean]; exact (same_bool a b).symm

theorem rank_nan (b : Nat) (h : isNan b = true) : rank b = 18446744073709551615 := by unfold rank; rw [if_pos h]
theorem rank_hi (b : Nat) (h : isNan b = false) (hb : U64 b) (g : 9223372036854775808 ≤ b) : rank b = 18446744073709551615 - b := by
  unfold U64 at hb
  unfold rank; rw [if_neg (by simp [h]), if_pos g]; omega
theorem rank_lo (b : Nat) (h : isNan b = false) (g : b < 9223372036854775808) : rank b = 9223372036854775808 + b := by
  unfold rank; rw [if_neg (by simp [h]), if_neg (by omega)]

theorem rank_inj (a b : Nat) (ha : U64 a) (hb : U64 b) : rank a = rank b ↔ clean a = clean b := by
  cases na : isNan a <;> cases nb : isNan b
  · have na' := (isNan_false_iff a).1 na
    have nb' := (isNan_false_iff b).1 nb
    rw [clean_num a na, clean_num b nb]
    by_cases h1 : 9223372036854775808 ≤ a <;> by_cases h2 : 9223372036854775808 ≤ b
    · rw [rank_hi a na ha h1, rank_hi b nb hb h2]; unfold U64 at ha hb; omega
    · rw [rank_hi a na ha h1, rank_lo b nb (by omega)]; unfold U64 at ha hb; omega
    · rw [rank_lo a na (by omega), rank_hi b nb hb h2]; unfold U64 at ha hb; omega
    · rw [rank_lo a na (by omega), rank_lo b nb (by omega)]; unfold U64 at ha hb; omega
  · have na' := (isNan_false_iff a).1 na
    have nb' := (isNan_iff b).1 nb
    rw [rank_nan b nb, clean_num a na, clean_nan b nb]
    by_cases h1 : 9223372036854775808 ≤ a
    · rw [rank_hi a na ha h1]; unfold U64 at ha hb; omega
    · rw [rank_lo a na (by omega)]; unfold U64 at ha hb; omega
  · have na' := (isNan_iff a).1 na
    have nb' := (isNan_false_iff b).1 nb
    rw [rank_nan a na, clean_num b nb, clean_nan a na]
    by_cases h1 : 9223372036854775808 ≤ b
    · rw [rank_hi b nb hb h1]; unfold U64 at ha hb; omega
    · rw [rank_lo b nb (by omega)]; unfold U64 at ha hb; omega
  · rw [rank_nan a na, rank_nan b nb, clean_nan a na, clean_nan b nb]; simp

theorem tri (a b : Nat) (ha : U64 a) (hb : U64 b) :
    (lessB a b = true ∧ lessB b a = false) ∨ (lessB a b = false ∧ lessB b a = true) ∨ (lessB a b = false ∧ lessB b a = false ∧ sameB a b = true) := by
  have hr := rank_inj a b ha hb
  unfold lessB sameB
  by_cases h1 : rank a < rank b
  · exact Or.inl ⟨decide_eq_true h1, decide_eq_false (by omega)⟩
  · by_cases h2 : rank b < rank a
    · exact Or.inr (Or.inl ⟨decide_eq_false h1, decide_eq_true h2⟩)
    · exact Or.inr (Or.inr ⟨decide_eq_false h1, decide_eq_false h2, decide_eq_true (hr.1 (by omega))⟩)
theorem less_irr (a : Nat) : lessB a a = false := by unfold lessB; exact decide_eq_false (by omega)
theorem less_trans (a b c : Nat) (h1 : lessB a b = true) (h2 : lessB b c = true) : lessB a c = true := by
  unfold lessB at *; rw [decide_eq_true_iff] at *; omega

/-- Where neither is NaN and the one is not at least the other, it is ahead. -/
theorem less_of_not_ge (a b : Nat) (ha : U64 a) (hb : U64 b) (na : isNan a = false) (nb : isNan b = false)
    (h : (FloatKind.f64.format.order a b == some .gt || FloatKind.f64.format.order a b == some .eq) = false) : lessB a b = true := by
  rw [Bool.or_eq_false_iff, fgt a b na nb, feq a b na nb] at h
  have h1 := of_decide_eq_false h.1
  have h2 := of_decide_eq_false h.2
  have hl : key a < key b := by omega
  rw [← less_bool a b ha hb na nb, flt a b na nb]
  · exact decide_eq_true hl
  · rintro ⟨z1, z2⟩
    apply h2
    have k0 : ∀ x : Nat, x % 9223372036854775808 = 0 → key x = 0 := by
      intro x hx
      unfold key sgd
      rw [hx]
      split <;> simp
    rw [k0 a z1, k0 b z2]
theorem ge_nan_left (a b : Nat) (h : isNan a = true) : (FloatKind.f64.format.order a b == some .gt || FloatKind.f64.format.order a b == some .eq) = false := by
  rw [fmt, order_nan_left a b h]; rfl
theorem ge_nan_right (a b : Nat) (h : isNan b = true) : (FloatKind.f64.format.order a b == some .gt || FloatKind.f64.format.order a b == some .eq) = false := by
  rw [fmt, order_nan_right a b h]; rfl

theorem run_neg (b : Nat) (w : World) : (Op.unary .neg (.float .f64 b)).run Try.prog w = .ok (.float .f64 (Op.negFloat .f64 b)) w := rfl

def negW (b : Nat) : Nat := if b < 9223372036854775808 then b + 9223372036854775808 else b - 9223372036854775808
theorem negFloat_eq (b : Nat) (h : U64 b) : Op.negFloat .f64 b = negW b := by
  unfold U64 at h
  show b ^^^ 2 ^ 63 = negW b
  unfold negW
  by_cases h1 : b < 9223372036854775808
  · rw [if_pos h1]
    have e : b ^^^ 2 ^ 63 = b ||| 2 ^ 63 := by
      refine Nat.eq_of_testBit_eq fun i => ?_
      rw [Nat.testBit_xor, Nat.testBit_or, Nat.testBit_two_pow]
      by_cases hi : 63 = i
      · subst hi
        rw [Nat.testBit_lt_two_pow (show b < 2 ^ 63 from h1)]; simp
      · simp [hi]
    rw [e, Nat.or_comm]
    have := Nat.two_pow_add_eq_or_of_lt (show b < 2 ^ 63 from h1) 1
    simp only [Nat.mul_one] at this
    rw [← this]; omega
  · rw [if_neg h1]
    obtain ⟨c, rfl⟩ : ∃ c, b = 2 ^ 63 + c := ⟨b - 2 ^ 63, by omega⟩
    have hc : c < 2 ^ 63 := by omega
    have := Nat.two_pow_add_eq_or_of_lt hc 1
    simp only [Nat.mul_one] at this
    rw [this]
    have e : (2 ^ 63 ||| c) ^^^ 2 ^ 63 = c := by
      refine Nat.eq_of_testBit_eq fun i => ?_
      rw [Nat.testBit_xor, Nat.testBit_or, Nat.testBit_two_pow]
      by_cases hi : 63 = i
      · subst hi
        rw [Nat.testBit_lt_two_pow hc]; simp
      · simp [hi]
    rw [e, ← this]; omega
theorem xor_eq (b : Nat) (h : U64 b) : bits BinOp.xor IntKind.u64 (b : Int) 9223372036854775808 = ((negW b : Nat) : Int) := by
  have g := bits_xor_u64_nat b 9223372036854775808 h (by omega)
  refine g.trans ?_
  rw [show b ^^^ 9223372036854775808 = Op.negFloat .f64 b from rfl, negFloat_eq b h]
theorem negW_U64 (b : Nat) (h : U64 b) : U64 (negW b) := by unfold U64 negW at *; split <;> omega
theorem negW_mod (b : Nat) (h : U64 b) : negW b % 9223372036854775808 = b % 9223372036854775808 := by unfold U64 at h; unfold negW; split <;> omega
theorem negW_negW (b : Nat) (h : U64 b) : negW (negW b) = b := by
  unfold U64 at h; unfold negW
  by_cases h1 : b < 9223372036854775808
  · rw [if_pos h1, if_neg (by omega)]; omega
  · rw [if_neg h1, if_pos (by omega)]; omega
theorem negW_ne (b : Nat) (h : U64 b) : negW b ≠ b := by unfold U64 at h; unfold negW; split <;> omega
theorem negW_nan (b : Nat) (h : U64 b) : isNan (negW b) = isNan b := by unfold isNan; rw [negW_mod b h]
theorem negW_kind (b : Nat) (h : U64 b) : kind (negW b) = kind b := by unfold kind; rw [negW_mod b h]
theorem less_neg (a b : Nat) (ha : U64 a) (hb : U64 b) (na : isNan a = false) (nb : isNan b = false) : lessB (negW b) (negW a) = lessB a b := by
  have na' := (isNan_false_iff a).1 na
  have nb' := (isNan_false_iff b).1 nb
  have ma : isNan (negW a) = false := by rw [negW_nan a ha, na]
  have mb : isNan (negW b) = false := by rw [negW_nan b hb, nb]
  have ua := negW_U64 a ha
  have ub := negW_U64 b hb
  unfold lessB
  rw [decide_eq_decide]
  by_cases h1 : 9223372036854775808 ≤ a <;> by_cases h2 : 9223372036854775808 ≤ b
  · have e1 : negW a = a - 9223372036854775808 := by unfold negW; rw [if_neg (by omega)]
    have e2 : negW b = b - 9223372036854775808 := by unfold negW; rw [if_neg (by omega)]
    rw [rank_hi a na ha h1, rank_hi b nb hb h2, rank_lo _ ma (by unfold U64 at ha; omega), rank_lo _ mb (by unfold U64 at hb; omega), e1, e2]
    unfold U64 at ha hb; omega
  · have e1 : negW a = a - 9223372036854775808 := by unfold negW; rw [if_neg (by omega)]
    have e2 : negW b = b + 9223372036854775808 := by unfold negW; rw [if_pos (by omega)]
    rw [rank_hi a na ha h1, rank_lo b nb (by omega), rank_lo _ ma (by unfold U64 at ha; omega), rank_hi _ mb ub (by omega), e1, e2]
    unfold U64 at ha hb; omega
  · have e1 : negW a = a + 9223372036854775808 := by unfold negW; rw [if_pos (by omega)]
    have e2 : negW b = b - 9223372036854775808 := by unfold negW; rw [if_neg (by omega)]
    rw [rank_lo a na (by omega), rank_hi b nb hb h2, rank_hi _ ma ua (by omega), rank_lo _ mb (by unfold U64 at hb; omega), e1, e2]
    unfold U64 at ha hb; omega
  · have e1 : negW a = a + 9223372036854775808 := by unfold negW; rw [if_pos (by omega)]
    have e2 : negW b = b + 9223372036854775808 := by unfold negW; rw [if_pos (by omega)]
    rw [rank_lo a na (by omega), rank_lo b nb (by omega), rank_hi _ ma ua (by omega), rank_hi _ mb ub (by omega), e1, e2]
    unfold U64 at ha hb; omega
end Go.Proofs.Ytknmgomfhppgeaa
