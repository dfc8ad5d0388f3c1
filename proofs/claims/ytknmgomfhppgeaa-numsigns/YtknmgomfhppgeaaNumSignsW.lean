/- The walk of NumSigns. -/
import Derived.Test.YtknmgomfhppgeaaNumA
import Derived.Test.YtknmgomfhppgeaaNumL
import Derived.RowKit3
namespace Go.Proofs.Ytknmgomfhppgeaa
open Go.RowKit
open Flt
namespace numSigns
theorem walk (a0 a1 : Int) (w0 : (Lit.int .u64 a0).wf = true) (w1 : (Lit.int .u64 a1).wf = true) (w : World) :
    Calls Try.prog 10 #[.int .u64 a0, .int .u64 a1] w fun e w' => e = .returned (.bool true) ∧ Grown w w' := by
  obtain ⟨h0, k0⟩ := wf_u64 w0
  obtain ⟨m, rfl⟩ := Int.eq_ofNat_of_zero_le h0
  rw [Int.toNat_natCast] at k0
  have c0 := clean_U64 m k0
  clear w0 h0
  obtain ⟨h1, k1⟩ := wf_u64 w1
  obtain ⟨n, rfl⟩ := Int.eq_ofNat_of_zero_le h1
  rw [Int.toNat_natCast] at k1
  have c1 := clean_U64 n k1
  clear w1 h1
  generalize hX : clean m = X at *
  generalize hY : clean n = Y at *
  have HX := Lib.hid hX
  have HY := Lib.hid hY
  clear hX hY k0 k1
  have e1 := negFloat_eq X c0
  have e2 := negFloat_eq Y c1
  have d0 := negW_U64 X c0
  have d1 := negW_U64 Y c1
  have e3 := negW_kind X c0
  have e4 := negFloat_eq (negW X) d0
  have e5 := negW_negW X c0
  have e6 : sameB X X = true := decide_eq_true rfl
  cases nx : isNan X
  · have f1 := kind0_bool X false nx
    cases ny : isNan Y
    · have f2 := kind0_bool Y false ny
      have f3 := less_neg X Y c0 c1 nx ny
      have hrn := run_neg
      go_enter Try.func10, Try.ntmps10
      go_wp2_with fail
      refine (alive_c _).mono ?_
      rintro e w' ⟨rfl, rfl⟩
      go_wp2_with fail
      refine (of_c _ _).mono ?_
      rintro e w' ⟨rfl, rfl⟩
      rw [Int.toNat_natCast, HX.out]
      go_wp2_with fail
      refine (of_c _ _).mono ?_
      rintro e w' ⟨rfl, rfl⟩
      rw [Int.toNat_natCast, HY.out]
      go_wp2_with (first
    | (go_at_call 20; refine (less_c _ _ _ (by assumption) (by assumption)).mono ?_; rintro e w' ⟨rfl, rfl⟩)
    | (go_at_call 19; refine (same_c _ _ _).mono ?_; rintro e w' ⟨rfl, rfl⟩)
    | (go_at_call 17; refine (kind_c _ _ (by assumption)).mono ?_; rintro e w' ⟨rfl, rfl⟩))
      go_ret
      exact ⟨rfl, Grown.refl _⟩
    · have f2 := kind0_bool Y true ny
      have hrn := run_neg
      go_enter Try.func10, Try.ntmps10
      go_wp2_with fail
      refine (alive_c _).mono ?_
      rintro e w' ⟨rfl, rfl⟩
      go_wp2_with fail
      refine (of_c _ _).mono ?_
      rintro e w' ⟨rfl, rfl⟩
      rw [Int.toNat_natCast, HX.out]
      go_wp2_with fail
      refine (of_c _ _).mono ?_
      rintro e w' ⟨rfl, rfl⟩
      rw [Int.toNat_natCast, HY.out]
      go_wp2_with (first
    | (go_at_call 20; refine (less_c _ _ _ (by assumption) (by assumption)).mono ?_; rintro e w' ⟨rfl, rfl⟩)
    | (go_at_call 19; refine (same_c _ _ _).mono ?_; rintro e w' ⟨rfl, rfl⟩)
    | (go_at_call 17; refine (kind_c _ _ (by assumption)).mono ?_; rintro e w' ⟨rfl, rfl⟩))
      go_ret
      exact ⟨rfl, Grown.refl _⟩
  · have f1 := kind0_bool X true nx
    have hrn := run_neg
    go_enter Try.func10, Try.ntmps10
    go_wp2_with fail
    refine (alive_c _).mono ?_
    rintro e w' ⟨rfl, rfl⟩
    go_wp2_with fail
    refine (of_c _ _).mono ?_
    rintro e w' ⟨rfl, rfl⟩
    rw [Int.toNat_natCast, HX.out]
    go_wp2_with fail
    refine (of_c _ _).mono ?_
    rintro e w' ⟨rfl, rfl⟩
    rw [Int.toNat_natCast, HY.out]
    go_wp2_with (first
    | (go_at_call 20; refine (less_c _ _ _ (by assumption) (by assumption)).mono ?_; rintro e w' ⟨rfl, rfl⟩)
    | (go_at_call 19; refine (same_c _ _ _).mono ?_; rintro e w' ⟨rfl, rfl⟩)
    | (go_at_call 17; refine (kind_c _ _ (by assumption)).mono ?_; rintro e w' ⟨rfl, rfl⟩))
    go_ret
    exact ⟨rfl, Grown.refl _⟩
end numSigns
end Go.Proofs.Ytknmgomfhppgeaa
