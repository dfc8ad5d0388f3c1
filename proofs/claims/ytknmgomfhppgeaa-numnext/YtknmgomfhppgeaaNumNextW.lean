/- The walk of NumNext. -/
import Derived.Test.YtknmgomfhppgeaaNumA
import Derived.Test.YtknmgomfhppgeaaNumL
import Derived.RowKit3
namespace Go.Proofs.Ytknmgomfhppgeaa
open Go.RowKit
open Flt
namespace numNext
def nextW (x : Nat) : Nat := if x % 9223372036854775808 = 0 then 1 else if 9223372036854775808 ≤ x then x - 1 else x + 1
theorem one_sign : (bits BinOp.or IntKind.u64 (bits BinOp.andNot IntKind.u64 1 9223372036854775808) (bits BinOp.and IntKind.u64 9218868437227405312 9223372036854775808)).toNat = 1 := by decide
theorem one_c (w : World) : Calls Try.prog 26 #[.float .f64 1, .float .f64 9218868437227405312] w fun e w' => e = .returned (.float .f64 1) ∧ w = w' := by
  have h1 := frombits
  have h2 := tobits
  go_enter Try.func26, Try.ntmps26
  go_wp2
  go_ret
  exact ⟨ret_flt one_sign, rfl⟩
theorem key_inf : key 9218868437227405312 = 9218868437227405312 := by decide
theorem next_c (x : Nat) (w : World) (hx : U64 x) (nx : isNan x = false) (hi : sameB x 9218868437227405312 = false) :
    Calls Try.prog 25 #[.float .f64 x, .float .f64 9218868437227405312] w fun e w' => e = .returned (.float .f64 (nextW x)) ∧ w = w' := by
  have h1 := frombits
  have h2 := tobits
  have ni : isNan 9218868437227405312 = false := by decide
  have hi' : x ≠ 9218868437227405312 := by
    have := of_decide_eq_false hi
    rw [clean_num x nx, clean_num _ ni] at this
    exact this
  have nx' := (isNan_false_iff x).1 nx
  have kx : key x < key 9218868437227405312 := by
    rw [key_inf]
    unfold U64 at hx
    by_cases g : x < 9223372036854775808
    · rw [key_lo x g]; omega
    · rw [key_hi x g hx]; omega
  have e1 : (FloatKind.f64.format.order x 9218868437227405312 == some .eq) = false := by rw [feq x _ nx ni]; exact decide_eq_false (by omega)
  have e2 : (FloatKind.f64.format.order 9218868437227405312 x == some .gt) = true := by rw [fgt _ x ni nx]; exact decide_eq_true (by omega)
  have e3 := zero_bool x hx nx
  have e4 : (FloatKind.f64.format.order x 0 == some .gt) = decide (0 < key x) := by rw [fgt x 0 nx (by decide)]; rfl
  clear hi
  by_cases hz : x % 9223372036854775808 = 0
  · have hv : nextW x = 1 := by unfold nextW; rw [if_pos hz]
    have HV := Lib.hid hv
    rw [decide_eq_true hz] at e3
    clear hv hz kx hi' nx' e4
    go_enter Try.func25, Try.ntmps25
    go_wp2_with (first
      | (go_at_call 28; refine (isnan_c _ _).mono ?_; rintro e w' ⟨rfl, rfl⟩)
      | (go_at_call 26; refine (one_c _).mono ?_; rintro e w' ⟨rfl, rfl⟩))
    go_ret
    exact ⟨ret_flt HV.out.symm, rfl⟩
  rw [decide_eq_false hz] at e3
  by_cases hs : 9223372036854775808 ≤ x
  · have hv : nextW x = x - 1 := by unfold nextW; rw [if_neg hz, if_pos hs]
    have hk : ¬ 0 < key x := by unfold U64 at hx; rw [key_hi x (by omega) hx]; omega
    rw [decide_eq_false hk] at e4
    have HV := Lib.hid hv
    have HS := Lib.hid hs
    clear hv hz kx hi' nx' hk hs
    go_enter Try.func25, Try.ntmps25
    go_wp2_with (go_at_call 28; refine (isnan_c _ _).mono ?_; rintro e w' ⟨rfl, rfl⟩)
    go_ret
    refine ⟨ret_flt ?_, rfl⟩
    rw [HV.out, IntKind.wrap_u64]
    have := HS.out
    unfold U64 at hx
    omega
  · have hv : nextW x = x + 1 := by unfold nextW; rw [if_neg hz, if_neg hs]
    have hk : 0 < key x := by rw [key_lo x (by omega)]; omega
    rw [decide_eq_true hk] at e4
    have HV := Lib.hid hv
    have HS := Lib.hid hs
    clear hv hz kx hi' nx' hk hs
    go_enter Try.func25, Try.ntmps25
    go_wp2_with (go_at_call 28; refine (isnan_c _ _).mono ?_; rintro e w' ⟨rfl, rfl⟩)
    go_ret
    refine ⟨ret_flt ?_, rfl⟩
    rw [HV.out, IntKind.wrap_u64]
    have := HS.out
    unfold U64 at hx
    omega
theorem same_inf (x : Nat) (nx : isNan x = false) (h : sameB x 9218868437227405312 = false) : x ≠ 9218868437227405312 := by
  have := of_decide_eq_false h
  rw [clean_num x nx, clean_num _ (by decide)] at this
  exact this
theorem next_U64 (x : Nat) (hx : U64 x) : U64 (nextW x) := by
  unfold nextW U64 at *
  split
  · omega
  · split <;> omega
theorem next_rank (x : Nat) (hx : U64 x) (nx : isNan x = false) (hi : x ≠ 9218868437227405312) :
    (x ≠ 9223372036854775808 → rank (nextW x) = rank x + 1) ∧ (x = 9223372036854775808 → rank (nextW x) = rank x + 2) := by
  have nx' := (isNan_false_iff x).1 nx
  have nn : isNan (nextW x) = false := by
    rw [isNan_false_iff]; unfold nextW; unfold U64 at hx; split
    · omega
    · split <;> omega
  by_cases h1 : 9223372036854775808 ≤ x
  · rw [rank_hi x nx hx h1]
    by_cases hz : x % 9223372036854775808 = 0
    · have hv : nextW x = 1 := by unfold nextW; rw [if_pos hz]
      rw [hv] at nn ⊢
      rw [rank_lo 1 nn (by omega)]
      unfold U64 at hx
      constructor <;> intro <;> omega
    · have hv : nextW x = x - 1 := by unfold nextW; rw [if_neg hz, if_pos h1]
      have hu := next_U64 x hx
      rw [hv] at nn hu ⊢
      rw [rank_hi (x - 1) nn hu (by omega)]
      unfold U64 at hx
      constructor <;> intro <;> omega
  · rw [rank_lo x nx (by omega)]
    by_cases hz : x % 9223372036854775808 = 0
    · have hv : nextW x = 1 := by unfold nextW; rw [if_pos hz]
      rw [hv] at nn ⊢
      rw [rank_lo 1 nn (by omega)]
      constructor <;> intro <;> omega
    · have hv : nextW x = x + 1 := by unfold nextW; rw [if_neg hz, if_neg h1]
      rw [hv] at nn ⊢
      rw [rank_lo (x + 1) nn (by omega)]
      constructor <;> intro <;> omega
theorem last (x y : Nat) (hx : U64 x) (hy : U64 y) (nx : isNan x = false) (hi : sameB x 9218868437227405312 = false) :
    lessB x (nextW x) = true ∧ (lessB x y = false ∨ (lessB x y = true ∧ lessB y (nextW x) = false) ∨ (lessB x y = true ∧ lessB y (nextW x) = true ∧ sameB x 9223372036854775808 = true ∧ sameB y 0 = true)) := by
  have hr := next_rank x hx nx (same_inf x nx hi)
  have hl : lessB x (nextW x) = true := by
    unfold lessB; refine decide_eq_true ?_
    by_cases g : x = 9223372036854775808
    · have := hr.2 g; omega
    · have := hr.1 g; omega
  refine ⟨hl, ?_⟩
  cases h1 : lessB x y
  · exact Or.inl rfl
  refine Or.inr ?_
  cases h2 : lessB y (nextW x)
  · exact Or.inl ⟨rfl, rfl⟩
  refine Or.inr ⟨rfl, rfl, ?_⟩
  have g1 := of_decide_eq_true h1
  have g2 := of_decide_eq_true h2
  by_cases g : x = 9223372036854775808
  · have hr2 := hr.2 g
    subst g
    refine ⟨by decide, ?_⟩
    have r1 : rank 9223372036854775808 = 9223372036854775807 := by decide
    rw [r1] at hr2 g1
    have r0 : rank 0 = 9223372036854775808 := by decide
    unfold sameB
    refine decide_eq_true ((rank_inj y 0 hy (by unfold U64; omega)).1 ?_)
    omega
  · have := hr.1 g; omega
theorem walk (a0 a1 : Int) (w0 : (Lit.int .u64 a0).wf = true) (w1 : (Lit.int .u64 a1).wf = true) (w : World) :
    Calls Try.prog 9 #[.int .u64 a0, .int .u64 a1] w fun e w' => e = .returned (.bool true) ∧ Grown w w' := by
  obtain ⟨h0, k0⟩ := wf_u64 w0
  obtain ⟨m, rfl⟩ := Int.eq_ofNat_of_zero_le h0
  rw [Int.toNat_natCast] at k0
  have c0 := clean_U64 m k0
  clear w0 h0
  obtain ⟨h1, k1⟩ := wf_u64 w1
  obtain ⟨n, rfl⟩ := Int.eq_ofNat_of_zero_le h1
  rw [Int.toNat_natCast] at k1
  have c1 := clean_U64 n k1
  clear w1 h1
  cases nx : isNan (clean m)
  · have f1 := kind0_bool (clean m) false nx
    cases hi : sameB (clean m) 9218868437227405312
    · obtain ⟨f2, f3⟩ := last (clean m) (clean n) c0 c1 nx hi
      have d := next_U64 (clean m) c0
      have z0 : U64 0 := by unfold U64; omega
      rcases f3 with f3 | ⟨f3, f4⟩ | ⟨f3, f4, f5, f6⟩
      all_goals
        go_enter Try.func9, Try.ntmps9
        go_wp2_with (first
    | (go_at_call 12; refine (alive_c _).mono ?_; rintro e w' ⟨rfl, rfl⟩)
    | (go_at_call 13; refine (of_c _ _).mono ?_; rintro e w' ⟨rfl, rfl⟩)
    | (go_at_call 19; refine (same_c _ _ _).mono ?_; rintro e w' ⟨rfl, rfl⟩)
    | (go_at_call 20; refine (less_c _ _ _ (by assumption) (by assumption)).mono ?_; rintro e w' ⟨rfl, rfl⟩)
    | (go_at_call 17; refine (kind_c _ _ (by assumption)).mono ?_; rintro e w' ⟨rfl, rfl⟩)
    | (go_at_call 24; refine (inf_c _).mono ?_; rintro e w' ⟨rfl, rfl⟩)
    | (go_at_call 26; refine (minus_c _).mono ?_; rintro e w' ⟨rfl, rfl⟩)
    | (go_at_call 25; refine (next_c _ _ (by assumption) (by assumption) (by assumption)).mono ?_; rintro e w' ⟨rfl, rfl⟩))
        go_ret
        exact ⟨rfl, Grown.refl _⟩
    · skip
      go_enter Try.func9, Try.ntmps9
      go_wp2_with (first
    | (go_at_call 12; refine (alive_c _).mono ?_; rintro e w' ⟨rfl, rfl⟩)
    | (go_at_call 13; refine (of_c _ _).mono ?_; rintro e w' ⟨rfl, rfl⟩)
    | (go_at_call 19; refine (same_c _ _ _).mono ?_; rintro e w' ⟨rfl, rfl⟩)
    | (go_at_call 20; refine (less_c _ _ _ (by assumption) (by assumption)).mono ?_; rintro e w' ⟨rfl, rfl⟩)
    | (go_at_call 17; refine (kind_c _ _ (by assumption)).mono ?_; rintro e w' ⟨rfl, rfl⟩)
    | (go_at_call 24; refine (inf_c _).mono ?_; rintro e w' ⟨rfl, rfl⟩))
      go_ret
      exact ⟨rfl, Grown.refl _⟩
  · have f1 := kind0_bool (clean m) true nx
    go_enter Try.func9, Try.ntmps9
    go_wp2_with (first
    | (go_at_call 12; refine (alive_c _).mono ?_; rintro e w' ⟨rfl, rfl⟩)
    | (go_at_call 13; refine (of_c _ _).mono ?_; rintro e w' ⟨rfl, rfl⟩)
    | (go_at_call 17; refine (kind_c _ _ (by assumption)).mono ?_; rintro e w' ⟨rfl, rfl⟩))
    go_ret
    exact ⟨rfl, Grown.refl _⟩
end numNext
end Go.Proofs.Ytknmgomfhppgeaa
