/- What the functions of package num, and those of package math that they call, answer: contracts by walks. -/
import Derived.Test.YtknmgomfhppgeaaChecked
import Derived.Test.YtknmgomfhppgeaaNumP
import Derived.WalkKit
import Derived.Lib.Hide
import Derived.Laws.Cover2
import Derived.Laws.Externs
namespace Go.Proofs.Ytknmgomfhppgeaa
open Go.RowKit
open Flt

theorem frombits (n : Int) (w : World) : (callFunc 27 #[.int .u64 n]).run Try.prog w = .ok (.value (.float .f64 n.toNat)) w :=
  run_callFunc_extern Try.func27 (by kernel_rfl) (by kernel_rfl) (by kernel_rfl) (e := Extern.MathFloatBits.float64frombits) (by kernel_rfl) _ w
theorem tobits (b : Nat) (w : World) : (callFunc 29 #[.float .f64 b]).run Try.prog w = .ok (.value (.int .u64 b)) w :=
  run_callFunc_extern Try.func29 (by kernel_rfl) (by kernel_rfl) (by kernel_rfl) (e := Extern.MathFloatBits.float64bits) (by kernel_rfl) _ w

theorem isnan_c (b : Nat) (w : World) : Calls Try.prog 28 #[.float .f64 b] w fun e w' => e = .returned (.bool (isNan b)) ∧ w = w' := by
  go_enter Try.func28, Try.ntmps28
  go_wp2
  go_ret
  exact ⟨congrArg (fun x => Ending.returned (Value.bool x)) (neq_self b), rfl⟩

theorem abs_c (b : Nat) (w : World) (h : U64 b) : Calls Try.prog 32 #[.float .f64 b] w fun e w' => e = .returned (.float .f64 (b % 9223372036854775808)) ∧ w = w' := by
  have h1 := frombits
  have h2 := tobits
  have h3 := abs_bits b h
  go_enter Try.func32, Try.ntmps32
  go_wp2
  go_ret
  exact ⟨rfl, rfl⟩

theorem signbit_c (b : Nat) (w : World) (h : U64 b) : Calls Try.prog 33 #[.float .f64 b] w fun e w' => e = .returned (.bool (negB b)) ∧ w = w' := by
  have h2 := tobits
  go_enter Try.func33, Try.ntmps33
  go_wp2
  go_ret
  exact ⟨congrArg (fun x => Ending.returned (Value.bool x)) (neg_bool b h), rfl⟩

theorem isinf_c (b : Nat) (w : World) (h : U64 b) (hn : isNan b = false) : Calls Try.prog 31 #[.float .f64 b, .int .i64 0] w fun e w' => e = .returned (.bool (infB b)) ∧ w = w' := by
  have h3 := inf_bool b hn
  clear hn
  go_enter Try.func31, Try.ntmps31
  go_wp2_with (go_at_call 32; refine (abs_c _ _ h).mono ?_; rintro e w' ⟨rfl, rfl⟩)
  go_ret
  exact ⟨rfl, rfl⟩

theorem bits_c (b : Nat) (w : World) : Calls Try.prog 14 #[.float .f64 b] w fun e w' => e = .returned (.int .u64 (clean b)) ∧ w = w' := by
  have h2 := tobits
  by_cases hn : isNan b = true
  · have hc := clean_nan b hn
    go_enter Try.func14, Try.ntmps14
    go_wp2_with (go_at_call 28; refine (isnan_c _ _).mono ?_; rintro e w' ⟨rfl, rfl⟩)
    go_ret
    exact ⟨by rw [hc]; rfl, rfl⟩
  · have hn : isNan b = false := by simpa using hn
    have hc := clean_num b hn
    go_enter Try.func14, Try.ntmps14
    go_wp2_with (go_at_call 28; refine (isnan_c _ _).mono ?_; rintro e w' ⟨rfl, rfl⟩)
    go_ret
    exact ⟨by rw [hc]; rfl, rfl⟩

theorem of_c (n : Int) (w : World) : Calls Try.prog 13 #[.int .u64 n] w fun e w' => e = .returned (.float .f64 (clean n.toNat)) ∧ w = w' := by
  have h1 := frombits
  by_cases hn : isNan n.toNat = true
  · have hc := clean_nan _ hn
    go_enter Try.func13, Try.ntmps13
    go_wp2_with (go_at_call 28; refine (isnan_c _ _).mono ?_; rintro e w' ⟨rfl, rfl⟩)
    go_ret
    exact ⟨by rw [hc]; rfl, rfl⟩
  · have hn : isNan n.toNat = false := by simpa using hn
    have hc := clean_num _ hn
    go_enter Try.func13, Try.ntmps13
    go_wp2_with (go_at_call 28; refine (isnan_c _ _).mono ?_; rintro e w' ⟨rfl, rfl⟩)
    go_ret
    exact ⟨by rw [hc]; rfl, rfl⟩

theorem ret_bool {a b : Bool} (h : a = b) : Ending.returned (.bool a) = .returned (.bool b) := by rw [h]
theorem ret_int {k : IntKind} {a b : Int} (h : a = b) : Ending.returned (.int k a) = .returned (.int k b) := by rw [h]
theorem ret_flt {k : FloatKind} {a b : Nat} (h : a = b) : Ending.returned (.float k a) = .returned (.float k b) := by rw [h]

theorem same_bool (a b : Nat) : ((clean a : Int) == (clean b : Int)) = sameB a b := by
  unfold sameB
  rw [Bool.eq_iff_iff, beq_iff_eq, decide_eq_true_iff]
  omega

theorem same_c (a b : Nat) (w : World) : Calls Try.prog 19 #[.float .f64 a, .float .f64 b] w fun e w' => e = .returned (.bool (sameB a b)) ∧ w = w' := by
  go_enter Try.func19, Try.ntmps19
  go_wp2_with (go_at_call 14; refine (bits_c _ _).mono ?_; rintro e w' ⟨rfl, rfl⟩)
  go_ret
  exact ⟨ret_bool (same_bool a b), rfl⟩

theorem kind_c (b : Nat) (w : World) (h : U64 b) : Calls Try.prog 17 #[.float .f64 b] w fun e w' => e = .returned (.int .i64 (kind b)) ∧ w = w' := by
  by_cases hn : isNan b = true
  · have hk : kind b = 0 := by unfold kind; rw [if_pos ((isNan_iff b).1 hn)]
    have HK := Lib.hid hk; clear hk
    go_enter Try.func17, Try.ntmps17
    go_wp2_with (go_at_call 28; refine (isnan_c _ _).mono ?_; rintro e w' ⟨rfl, rfl⟩)
    go_ret
    exact ⟨ret_int HK.out.symm, rfl⟩
  have hn : isNan b = false := by simpa using hn
  have hn' := (isNan_false_iff b).1 hn
  have HN := Lib.hid hn
  by_cases hi : infB b = true
  · have hk : kind b = 1 := by unfold kind; rw [if_neg hn', if_pos (of_decide_eq_true hi)]
    have HK := Lib.hid hk; clear hk
    clear hn'
    go_enter Try.func17, Try.ntmps17
    go_wp2_with (first | (go_at_call 28; refine (isnan_c _ _).mono ?_; rintro e w' ⟨rfl, rfl⟩) | (go_at_call 31; refine (isinf_c _ _ h HN.out).mono ?_; rintro e w' ⟨rfl, rfl⟩))
    go_ret
    exact ⟨ret_int HK.out.symm, rfl⟩
  have hi : infB b = false := by simpa using hi
  have hi' := of_decide_eq_false hi
  have hz := zero_bool b h hn
  have hs := sub_bool b hn
  by_cases h0 : b % 9223372036854775808 = 0
  · have hk : kind b = 4 := by unfold kind; rw [if_neg hn', if_neg hi', if_pos h0]
    have HK := Lib.hid hk; clear hk
    rw [decide_eq_true h0] at hz
    clear hn' hi' h0 hs
    go_enter Try.func17, Try.ntmps17
    go_wp2_with (first | (go_at_call 28; refine (isnan_c _ _).mono ?_; rintro e w' ⟨rfl, rfl⟩) | (go_at_call 31; refine (isinf_c _ _ h HN.out).mono ?_; rintro e w' ⟨rfl, rfl⟩))
    go_ret
    exact ⟨ret_int HK.out.symm, rfl⟩
  rw [decide_eq_false h0] at hz
  by_cases h3 : b % 9223372036854775808 < 4503599627370496
  · have hk : kind b = 3 := by unfold kind; rw [if_neg hn', if_neg hi', if_neg h0, if_pos h3]
    have HK := Lib.hid hk; clear hk
    rw [decide_eq_true h3] at hs
    clear hn' hi' h0 h3
    go_enter Try.func17, Try.ntmps17
    go_wp2_with (first | (go_at_call 28; refine (isnan_c _ _).mono ?_; rintro e w' ⟨rfl, rfl⟩) | (go_at_call 31; refine (isinf_c _ _ h HN.out).mono ?_; rintro e w' ⟨rfl, rfl⟩) | (go_at_call 32; refine (abs_c _ _ h).mono ?_; rintro e w' ⟨rfl, rfl⟩))
    go_ret
    exact ⟨ret_int HK.out.symm, rfl⟩
  · have hk : kind b = 2 := by unfold kind; rw [if_neg hn', if_neg hi', if_neg h0, if_neg h3]
    have HK := Lib.hid hk; clear hk
    rw [decide_eq_false h3] at hs
    clear hn' hi' h0 h3
    go_enter Try.func17, Try.ntmps17
    go_wp2_with (first | (go_at_call 28; refine (isnan_c _ _).mono ?_; rintro e w' ⟨rfl, rfl⟩) | (go_at_call 31; refine (isinf_c _ _ h HN.out).mono ?_; rintro e w' ⟨rfl, rfl⟩) | (go_at_call 32; refine (abs_c _ _ h).mono ?_; rintro e w' ⟨rfl, rfl⟩))
    go_ret
    exact ⟨ret_int HK.out.symm, rfl⟩

theorem less_c (a b : Nat) (w : World) (ha : U64 a) (hb : U64 b) : Calls Try.prog 20 #[.float .f64 a, .float .f64 b] w fun e w' => e = .returned (.bool (lessB a b)) ∧ w = w' := by
  by_cases na : isNan a = true
  · have HK := Lib.hid (less_nan_left a b hb na)
    go_enter Try.func20, Try.ntmps20
    go_wp2_with (go_at_call 28; refine (isnan_c _ _).mono ?_; rintro e w' ⟨rfl, rfl⟩)
    go_ret
    exact ⟨ret_bool HK.out.symm, rfl⟩
  have na : isNan a = false := by simpa using na
  by_cases nb : isNan b = true
  · have HK := Lib.hid (less_nan_right a b ha na nb)
    go_enter Try.func20, Try.ntmps20
    go_wp2_with (go_at_call 28; refine (isnan_c _ _).mono ?_; rintro e w' ⟨rfl, rfl⟩)
    go_ret
    exact ⟨ret_bool HK.out.symm, rfl⟩
  have nb : isNan b = false := by simpa using nb
  have za := zero_bool a ha na
  have zb := zero_bool b hb nb
  by_cases hz : a % 9223372036854775808 = 0 ∧ b % 9223372036854775808 = 0
  · have HK := Lib.hid (less_zero a b ha hb hz.1 hz.2)
    rw [decide_eq_true hz.1] at za
    rw [decide_eq_true hz.2] at zb
    clear hz
    cases sa : negB a
    · rw [sa] at HK
      go_enter Try.func20, Try.ntmps20
      go_wp2_with (first | (go_at_call 28; refine (isnan_c _ _).mono ?_; rintro e w' ⟨rfl, rfl⟩) | (go_at_call 33; refine (signbit_c _ _ (by assumption)).mono ?_; rintro e w' ⟨rfl, rfl⟩))
      go_ret
      exact ⟨ret_bool (by rw [HK.out]; rfl), rfl⟩
    · rw [sa] at HK
      go_enter Try.func20, Try.ntmps20
      go_wp2_with (first | (go_at_call 28; refine (isnan_c _ _).mono ?_; rintro e w' ⟨rfl, rfl⟩) | (go_at_call 33; refine (signbit_c _ _ (by assumption)).mono ?_; rintro e w' ⟨rfl, rfl⟩))
      go_ret
      exact ⟨ret_bool (by rw [HK.out]; rfl), rfl⟩
  · have hl := less_bool a b ha hb na nb hz
    cases h0 : decide (a % 9223372036854775808 = 0)
    · rw [h0] at za
      clear hz h0 zb
      go_enter Try.func20, Try.ntmps20
      go_wp2_with (go_at_call 28; refine (isnan_c _ _).mono ?_; rintro e w' ⟨rfl, rfl⟩)
      go_ret
      exact ⟨rfl, rfl⟩
    · rw [h0] at za
      have h1 : decide (b % 9223372036854775808 = 0) = false := decide_eq_false (fun h => hz ⟨of_decide_eq_true h0, h⟩)
      rw [h1] at zb
      clear hz h0 h1
      go_enter Try.func20, Try.ntmps20
      go_wp2_with (go_at_call 28; refine (isnan_c _ _).mono ?_; rintro e w' ⟨rfl, rfl⟩)
      go_ret
      exact ⟨rfl, rfl⟩
end Go.Proofs.Ytknmgomfhppgeaa
