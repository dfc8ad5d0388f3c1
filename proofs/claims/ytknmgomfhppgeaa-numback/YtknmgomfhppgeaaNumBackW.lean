/- The walk of NumBack. -/
import Derived.Test.YtknmgomfhppgeaaNumA
import Derived.Test.YtknmgomfhppgeaaNumL
import Derived.RowKit3
namespace Go.Proofs.Ytknmgomfhppgeaa
open Go.RowKit
open Flt
namespace numBack
theorem walk (a0 : Int) (w0 : (Lit.int .u64 a0).wf = true) (w : World) :
    Calls Try.prog 8 #[.int .u64 a0] w fun e w' => e = .returned (.bool true) ∧ Grown w w' := by
  obtain ⟨h0, k0⟩ := wf_u64 w0
  obtain ⟨n, rfl⟩ := Int.eq_ofNat_of_zero_le h0
  rw [Int.toNat_natCast] at k0
  have c0 := clean_U64 n k0
  clear w0 h0
  cases hn : isNan n
  · have e1 := clean_num n hn
    have e2 : sameB n n = true := decide_eq_true rfl
    have e3 : (kind n == 0) = false := kind0_bool n false hn
    have e4 := negFloat_eq n k0
    have e5 := xor_eq n k0
    have e6 : clean (negW n) = negW n := clean_num _ (by rw [negW_nan n k0, hn])
    have e7 : sameB (negW n) n = false := by unfold sameB; rw [e6, e1]; exact decide_eq_false (negW_ne n k0)
    clear c0 hn
    have hrn := run_neg
    go_enter Try.func8, Try.ntmps8
    go_wp2_with (first
    | (go_at_call 12; refine (alive_c _).mono ?_; rintro e w' ⟨rfl, rfl⟩)
    | (go_at_call 13; refine (of_c _ _).mono ?_; rintro e w' ⟨rfl, rfl⟩)
    | (go_at_call 14; refine (bits_c _ _).mono ?_; rintro e w' ⟨rfl, rfl⟩)
    | (go_at_call 19; refine (same_c _ _ _).mono ?_; rintro e w' ⟨rfl, rfl⟩)
    | (go_at_call 17; refine (kind_c _ _ (by assumption)).mono ?_; rintro e w' ⟨rfl, rfl⟩))
    go_ret
    exact ⟨rfl, Grown.refl _⟩
  · have e1 := clean_nan n hn
    have e2 : sameB 9221120237041090561 9221120237041090561 = true := by decide
    have e3 : (kind 9221120237041090561 == 0) = true := by decide
    have e4 : Op.negFloat .f64 9221120237041090561 = 18444492273895866369 := by decide
    have e5 : sameB 18444492273895866369 9221120237041090561 = true := by decide
    have e6 : clean 9221120237041090561 = 9221120237041090561 := by decide
    have c1 : U64 9221120237041090561 := by unfold U64; omega
    clear c0 hn
    have hrn := run_neg
    go_enter Try.func8, Try.ntmps8
    go_wp2_with (first
    | (go_at_call 12; refine (alive_c _).mono ?_; rintro e w' ⟨rfl, rfl⟩)
    | (go_at_call 13; refine (of_c _ _).mono ?_; rintro e w' ⟨rfl, rfl⟩)
    | (go_at_call 14; refine (bits_c _ _).mono ?_; rintro e w' ⟨rfl, rfl⟩)
    | (go_at_call 19; refine (same_c _ _ _).mono ?_; rintro e w' ⟨rfl, rfl⟩)
    | (go_at_call 17; refine (kind_c _ _ (by assumption)).mono ?_; rintro e w' ⟨rfl, rfl⟩)
    | (go_at_call 23; refine (nan_c _).mono ?_; rintro e w' ⟨rfl, rfl⟩))
    go_ret
    exact ⟨rfl, Grown.refl _⟩
end numBack
end Go.Proofs.Ytknmgomfhppgeaa
