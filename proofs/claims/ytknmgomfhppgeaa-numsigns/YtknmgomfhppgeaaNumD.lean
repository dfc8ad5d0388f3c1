/- What num.Top, the document's own functions of layer 1 (package ropewayref01) and the rest of package math that the statements call answer. -/
import Derived.Test.YtknmgomfhppgeaaNumC
import Derived.Laws.Bits64b
namespace Go.Proofs.Ytknmgomfhppgeaa
open Go.RowKit
open Flt

theorem nan_c (w : World) : Calls Try.prog 23 #[] w fun e w' => e = .returned (.float .f64 9221120237041090561) ∧ w = w' := by
  have h1 := frombits
  go_enter Try.func23, Try.ntmps23
  go_wp2
  go_ret
  exact ⟨rfl, rfl⟩

theorem inf_c (w : World) : Calls Try.prog 24 #[.int .i64 1] w fun e w' => e = .returned (.float .f64 9218868437227405312) ∧ w = w' := by
  have h1 := frombits
  go_enter Try.func24, Try.ntmps24
  go_wp2
  go_ret
  exact ⟨rfl, rfl⟩
theorem minf_c (w : World) : Calls Try.prog 24 #[.int .i64 (-1)] w fun e w' => e = .returned (.float .f64 18442240474082181120) ∧ w = w' := by
  have h1 := frombits
  go_enter Try.func24, Try.ntmps24
  go_wp2
  go_ret
  exact ⟨rfl, rfl⟩

theorem copy_minus : (bits BinOp.or IntKind.u64 (bits BinOp.andNot IntKind.u64 0 9223372036854775808) (bits BinOp.and IntKind.u64 13830554455654793216 9223372036854775808)).toNat = 9223372036854775808 := by decide
theorem minus_c (w : World) : Calls Try.prog 26 #[.float .f64 0, .float .f64 13830554455654793216] w fun e w' => e = .returned (.float .f64 9223372036854775808) ∧ w = w' := by
  have h1 := frombits
  have h2 := tobits
  go_enter Try.func26, Try.ntmps26
  go_wp2
  go_ret
  exact ⟨ret_flt copy_minus, rfl⟩

def topB (k : Int) : Nat := if k = 0 then 9221120237041090561 else if k = 1 then 9218868437227405312 else if k = 2 then 9218868437227405311 else if k = 3 then 4503599627370495 else 0
def topE (k : Int) : Int := if k = 0 then 0 else if k = 1 then 0 else if k = 2 then 0 else if k = 3 then 0 else if k = 4 then 0 else 11

theorem clean_a : clean 9221120237041090561 = 9221120237041090561 := by decide
theorem clean_b : clean 4503599627370495 = 4503599627370495 := by decide

theorem top_c (k : Int) (w : World) : Calls Try.prog 11 #[.int .i64 k] w fun e w' => e = .returned (.tuple #[.float .f64 (topB k), .int .i64 (topE k)]) ∧ w = w' := by
  have e1 := clean_a
  have e2 := clean_b
  by_cases h0 : k = 0
  · subst h0
    go_enter Try.func11, Try.ntmps11
    go_wp2_with (go_at_call 13; refine (of_c _ _).mono ?_; rintro e w' ⟨rfl, rfl⟩)
    go_ret2
    exact ⟨rfl, rfl⟩
  by_cases h1 : k = 1
  · subst h1
    clear h0
    go_enter Try.func11, Try.ntmps11
    go_wp2_with (go_at_call 24; refine (inf_c _).mono ?_; rintro e w' ⟨rfl, rfl⟩)
    go_ret2
    exact ⟨rfl, rfl⟩
  by_cases h2 : k = 2
  · subst h2
    clear h0 h1
    go_enter Try.func11, Try.ntmps11
    go_wp2
    go_ret2
    exact ⟨rfl, rfl⟩
  by_cases h3 : k = 3
  · subst h3
    clear h0 h1 h2
    go_enter Try.func11, Try.ntmps11
    go_wp2_with (go_at_call 13; refine (of_c _ _).mono ?_; rintro e w' ⟨rfl, rfl⟩)
    go_ret2
    exact ⟨rfl, rfl⟩
  by_cases h4 : k = 4
  · subst h4
    clear h0 h1 h2 h3
    go_enter Try.func11, Try.ntmps11
    go_wp2
    go_ret2
    exact ⟨rfl, rfl⟩
  have t1 : topB k = 0 := by unfold topB; rw [if_neg h0, if_neg h1, if_neg h2, if_neg h3]
  have t2 : topE k = 11 := by unfold topE; rw [if_neg h0, if_neg h1, if_neg h2, if_neg h3, if_neg h4]
  have H1 := Lib.hid t1
  have H2 := Lib.hid t2
  have b0 : (k == 0) = false := beq_eq_false_iff_ne.2 h0
  have b1 : (k == 1) = false := beq_eq_false_iff_ne.2 h1
  have b2 : (k == 2) = false := beq_eq_false_iff_ne.2 h2
  have b3 : (k == 3) = false := beq_eq_false_iff_ne.2 h3
  have b4 : (k == 4) = false := beq_eq_false_iff_ne.2 h4
  clear t1 t2 h0 h1 h2 h3 h4
  go_enter Try.func11, Try.ntmps11
  go_wp2
  go_ret2
  exact ⟨by rw [H1.out, H2.out]; rfl, rfl⟩

theorem and_2047 (n : Nat) (h : U64 n) : bits BinOp.and IntKind.u64 ((n : Int) / 4503599627370496) 2047 = ((n / 4503599627370496 % 2048 : Nat) : Int) := by
  unfold U64 at h
  have e : ((n : Int) / 4503599627370496) = ((n / 4503599627370496 : Nat) : Int) := by omega
  have g := bits_and_u64_nat (n / 4503599627370496) 2047 (by omega) (by omega)
  rw [e]
  refine g.trans ?_
  rw [show (2047 : Nat) = 2 ^ 11 - 1 from rfl, Nat.and_two_pow_sub_one_eq_mod]
theorem and_52 (n : Nat) (h : U64 n) : bits BinOp.and IntKind.u64 (n : Int) 4503599627370495 = ((n % 4503599627370496 : Nat) : Int) := by
  unfold U64 at h
  have g := bits_and_u64_nat n 4503599627370495 h (by omega)
  refine g.trans ?_
  rw [show (4503599627370495 : Nat) = 2 ^ 52 - 1 from rfl, Nat.and_two_pow_sub_one_eq_mod]
theorem and_63 (n : Nat) (h : U64 n) : bits BinOp.and IntKind.u64 (n : Int) 9223372036854775807 = ((n % 9223372036854775808 : Nat) : Int) := by
  unfold U64 at h
  have g := bits_and_u64_nat n 9223372036854775807 h (by omega)
  refine g.trans ?_
  rw [show (9223372036854775807 : Nat) = 2 ^ 63 - 1 from rfl, Nat.and_two_pow_sub_one_eq_mod]

def pS (n : Nat) : Int := ((n / 9223372036854775808 : Nat) : Int)
def pE (n : Nat) : Int := ((n / 4503599627370496 % 2048 : Nat) : Int)
def pF (n : Nat) : Int := ((n % 4503599627370496 : Nat) : Int)
theorem ret_3 {a b c a' b' c' : Int} (h1 : a = a') (h2 : b = b') (h3 : c = c') : Ending.returned (.tuple #[.int .u64 a, .int .u64 b, .int .u64 c]) = .returned (.tuple #[.int .u64 a', .int .u64 b', .int .u64 c']) := by rw [h1, h2, h3]

theorem parts_c (n : Nat) (w : World) (h : U64 n) : Calls Try.prog 30 #[.int .u64 n] w fun e w' => e = .returned (.tuple #[.int .u64 (pS n), .int .u64 (pE n), .int .u64 (pF n)]) ∧ w = w' := by
  go_enter Try.func30, Try.ntmps30
  go_wp2
  go_ret3
  exact ⟨ret_3 (by unfold pS; omega) (and_2047 n h) (and_52 n h), rfl⟩

theorem pE_bool (n : Nat) (c : Bool) (h : decide (9218868437227405312 ≤ n % 9223372036854775808) = c) : (pE n == 2047) = c := by
  rw [← h, Bool.eq_iff_iff, beq_iff_eq, decide_eq_true_iff]; unfold pE; omega
theorem pE0_bool (n : Nat) (c : Bool) (h : decide (4503599627370496 ≤ n % 9223372036854775808) = c) : (pE n != 0) = c := by
  rw [← h, Bool.eq_iff_iff, bne_iff_ne, decide_eq_true_iff]; unfold pE; omega
theorem pF_bool (n : Nat) (c : Bool) (h : decide (n % 4503599627370496 ≠ 0) = c) : (pF n != 0) = c := by
  rw [← h, Bool.eq_iff_iff, bne_iff_ne, decide_eq_true_iff]; unfold pF; omega
theorem pS_bool (n : Nat) (hn : U64 n) (c : Bool) (h : negB n = c) : (pS n == 1) = c := by
  unfold U64 at hn
  rw [← h, Bool.eq_iff_iff, beq_iff_eq]; unfold negB pS; rw [decide_eq_true_iff]; omega

theorem refclean_c (n : Nat) (w : World) (h : U64 n) : Calls Try.prog 16 #[.int .u64 n] w fun e w' => e = .returned (.int .u64 (clean n)) ∧ w = w' := by
  by_cases h1 : 9218868437227405312 ≤ n % 9223372036854775808
  · have e1 := pE_bool n true (decide_eq_true h1)
    by_cases h2 : n % 4503599627370496 = 0
    · have e2 := pF_bool n false (decide_eq_false (by omega))
      have hc := Lib.hid (clean_num n ((isNan_false_iff n).2 (by omega)))
      clear h1 h2
      go_enter Try.func16, Try.ntmps16
      go_wp2_with (go_at_call 30; refine (parts_c _ _ h).mono ?_; rintro e w' ⟨rfl, rfl⟩)
      go_ret
      exact ⟨by rw [hc.out]; rfl, rfl⟩
    · have e2 := pF_bool n true (decide_eq_true (by omega))
      have hc := Lib.hid (clean_nan n ((isNan_iff n).2 (by omega)))
      clear h1 h2
      go_enter Try.func16, Try.ntmps16
      go_wp2_with (go_at_call 30; refine (parts_c _ _ h).mono ?_; rintro e w' ⟨rfl, rfl⟩)
      go_ret
      exact ⟨by rw [hc.out]; rfl, rfl⟩
  · have e1 := pE_bool n false (decide_eq_false h1)
    have hc := Lib.hid (clean_num n ((isNan_false_iff n).2 (by omega)))
    clear h1
    go_enter Try.func16, Try.ntmps16
    go_wp2_with (go_at_call 30; refine (parts_c _ _ h).mono ?_; rintro e w' ⟨rfl, rfl⟩)
    go_ret
    exact ⟨by rw [hc.out]; rfl, rfl⟩

theorem refbits_c (b : Nat) (w : World) (h : U64 b) : Calls Try.prog 15 #[.float .f64 b] w fun e w' => e = .returned (.int .u64 (clean b)) ∧ w = w' := by
  have h2 := tobits
  go_enter Try.func15, Try.ntmps15
  go_wp2_with (go_at_call 16; refine (refclean_c _ _ h).mono ?_; rintro e w' ⟨rfl, rfl⟩)
  go_ret
  exact ⟨rfl, rfl⟩

theorem refkind_c (n : Nat) (w : World) (h : U64 n) : Calls Try.prog 18 #[.int .u64 n] w fun e w' => e = .returned (.int .i64 (kind n)) ∧ w = w' := by
  by_cases h1 : 9218868437227405312 ≤ n % 9223372036854775808
  · have e1 := pE_bool n true (decide_eq_true h1)
    by_cases h2 : n % 4503599627370496 = 0
    · have e2 := pF_bool n false (decide_eq_false (by omega))
      have hc := Lib.hid (show kind n = 1 by unfold kind; rw [if_neg (by omega), if_pos (by omega)])
      clear h1 h2
      go_enter Try.func18, Try.ntmps18
      go_wp2_with (go_at_call 30; refine (parts_c _ _ h).mono ?_; rintro e w' ⟨rfl, rfl⟩)
      go_ret
      exact ⟨ret_int hc.out.symm, rfl⟩
    · have e2 := pF_bool n true (decide_eq_true (by omega))
      have hc := Lib.hid (show kind n = 0 by unfold kind; rw [if_pos (by omega)])
      clear h1 h2
      go_enter Try.func18, Try.ntmps18
      go_wp2_with (go_at_call 30; refine (parts_c _ _ h).mono ?_; rintro e w' ⟨rfl, rfl⟩)
      go_ret
      exact ⟨ret_int hc.out.symm, rfl⟩
  have e1 := pE_bool n false (decide_eq_false h1)
  by_cases h3 : 4503599627370496 ≤ n % 9223372036854775808
  · have e2 := pE0_bool n true (decide_eq_true h3)
    have hc := Lib.hid (show kind n = 2 by unfold kind; rw [if_neg (by omega), if_neg (by omega), if_neg (by omega), if_neg (by omega)])
    clear h1 h3
    go_enter Try.func18, Try.ntmps18
    go_wp2_with (go_at_call 30; refine (parts_c _ _ h).mono ?_; rintro e w' ⟨rfl, rfl⟩)
    go_ret
    exact ⟨ret_int hc.out.symm, rfl⟩
  have e2 := pE0_bool n false (decide_eq_false h3)
  by_cases h2 : n % 4503599627370496 = 0
  · have e3 := pF_bool n false (decide_eq_false (by omega))
    have hc := Lib.hid (show kind n = 4 by unfold kind; rw [if_neg (by omega), if_neg (by omega), if_pos (by omega)])
    clear h1 h3 h2
    go_enter Try.func18, Try.ntmps18
    go_wp2_with (go_at_call 30; refine (parts_c _ _ h).mono ?_; rintro e w' ⟨rfl, rfl⟩)
    go_ret
    exact ⟨ret_int hc.out.symm, rfl⟩
  · have e3 := pF_bool n true (decide_eq_true (by omega))
    have hc := Lib.hid (show kind n = 3 by unfold kind; rw [if_neg (by omega), if_neg (by omega), if_neg (by omega), if_pos (by omega)])
    clear h1 h3 h2
    go_enter Try.func18, Try.ntmps18
    go_wp2_with (go_at_call 30; refine (parts_c _ _ h).mono ?_; rintro e w' ⟨rfl, rfl⟩)
    go_ret
    exact ⟨ret_int hc.out.symm, rfl⟩

theorem kind0_bool (n : Nat) (c : Bool) (h : isNan n = c) : (kind n == 0) = c := by
  rw [← h, Bool.eq_iff_iff, beq_iff_eq, isNan_iff]; unfold kind
  constructor
  · intro g
    by_cases h1 : 9218868437227405312 < n % 9223372036854775808
    · exact h1
    · rw [if_neg h1] at g
      split at g
      · cases g
      · split at g
        · cases g
        · split at g <;> cases g
  · intro g; rw [if_pos g]

theorem refrank_c (n : Nat) (w : World) (h : U64 n) : Calls Try.prog 34 #[.int .u64 n] w fun e w' => e = .returned (.int .u64 (rank n)) ∧ w = w' := by
  have hm := and_63 n h
  by_cases h1 : isNan n = true
  · have e1 := kind0_bool n true h1
    have hc := Lib.hid (show rank n = 18446744073709551615 by unfold rank; rw [if_pos h1])
    clear h1 hm
    go_enter Try.func34, Try.ntmps34
    go_wp2_with (first | (go_at_call 30; refine (parts_c _ _ h).mono ?_; rintro e w' ⟨rfl, rfl⟩) | (go_at_call 18; refine (refkind_c _ _ h).mono ?_; rintro e w' ⟨rfl, rfl⟩))
    go_ret
    exact ⟨ret_int (by rw [hc.out]; rfl), rfl⟩
  have h1 : isNan n = false := by simpa using h1
  have e1 := kind0_bool n false h1
  by_cases h2 : 9223372036854775808 ≤ n
  · have e2 := pS_bool n h true (decide_eq_true h2)
    have hc := Lib.hid (show rank n = 9223372036854775807 - n % 9223372036854775808 by unfold rank; rw [if_neg (by simp [h1]), if_pos h2])
    clear h1 h2
    go_enter Try.func34, Try.ntmps34
    go_wp2_with (first | (go_at_call 30; refine (parts_c _ _ h).mono ?_; rintro e w' ⟨rfl, rfl⟩) | (go_at_call 18; refine (refkind_c _ _ h).mono ?_; rintro e w' ⟨rfl, rfl⟩))
    go_ret
    exact ⟨ret_int (by rw [hc.out]; omega), rfl⟩
  · have e2 := pS_bool n h false (decide_eq_false h2)
    have hc := Lib.hid (show rank n = 9223372036854775808 + n by unfold rank; rw [if_neg (by simp [h1]), if_neg h2])
    have hn := Lib.hid h2
    clear h1 h2
    go_enter Try.func34, Try.ntmps34
    go_wp2_with (first | (go_at_call 30; refine (parts_c _ _ h).mono ?_; rintro e w' ⟨rfl, rfl⟩) | (go_at_call 18; refine (refkind_c _ _ h).mono ?_; rintro e w' ⟨rfl, rfl⟩))
    go_ret
    exact ⟨ret_int (by rw [hc.out, IntKind.wrap_u64]; have := hn.out; omega), rfl⟩

theorem refless_c (a b : Nat) (w : World) (ha : U64 a) (hb : U64 b) : Calls Try.prog 21 #[.int .u64 a, .int .u64 b] w fun e w' => e = .returned (.bool (lessB a b)) ∧ w = w' := by
  go_enter Try.func21, Try.ntmps21
  go_wp2_with (go_at_call 34; refine (refrank_c _ _ (by assumption)).mono ?_; rintro e w' ⟨rfl, rfl⟩)
  go_ret
  exact ⟨rfl, rfl⟩

theorem reftop_c (k : Int) (w : World) : Calls Try.prog 22 #[.int .i64 k] w fun e w' => e = .returned (.tuple #[.int .u64 (topB k), .int .i64 (topE k)]) ∧ w = w' := by
  by_cases h0 : k = 0
  · subst h0
    go_enter Try.func22, Try.ntmps22
    go_wp2
    go_ret2
    exact ⟨rfl, rfl⟩
  by_cases h1 : k = 1
  · subst h1
    clear h0
    go_enter Try.func22, Try.ntmps22
    go_wp2
    go_ret2
    exact ⟨rfl, rfl⟩
  by_cases h2 : k = 2
  · subst h2
    clear h0 h1
    go_enter Try.func22, Try.ntmps22
    go_wp2
    go_ret2
    exact ⟨rfl, rfl⟩
  by_cases h3 : k = 3
  · subst h3
    clear h0 h1 h2
    go_enter Try.func22, Try.ntmps22
    go_wp2
    go_ret2
    exact ⟨rfl, rfl⟩
  by_cases h4 : k = 4
  · subst h4
    clear h0 h1 h2 h3
    go_enter Try.func22, Try.ntmps22
    go_wp2
    go_ret2
    exact ⟨rfl, rfl⟩
  have t1 : topB k = 0 := by unfold topB; rw [if_neg h0, if_neg h1, if_neg h2, if_neg h3]
  have t2 : topE k = 11 := by unfold topE; rw [if_neg h0, if_neg h1, if_neg h2, if_neg h3, if_neg h4]
  have H1 := Lib.hid t1
  have H2 := Lib.hid t2
  have b0 : (k == 0) = false := beq_eq_false_iff_ne.2 h0
  have b1 : (k == 1) = false := beq_eq_false_iff_ne.2 h1
  have b2 : (k == 2) = false := beq_eq_false_iff_ne.2 h2
  have b3 : (k == 3) = false := beq_eq_false_iff_ne.2 h3
  have b4 : (k == 4) = false := beq_eq_false_iff_ne.2 h4
  clear t1 t2 h0 h1 h2 h3 h4
  go_enter Try.func22, Try.ntmps22
  go_wp2
  go_ret2
  exact ⟨by rw [H1.out, H2.out]; rfl, rfl⟩
end Go.Proofs.Ytknmgomfhppgeaa
