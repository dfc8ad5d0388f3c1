/- The walk of NumTops. -/
import Derived.Test.YtknmgomfhppgeaaNumA
import Derived.Test.YtknmgomfhppgeaaNumL
import Derived.RowKit3
namespace Go.Proofs.Ytknmgomfhppgeaa
open Go.RowKit
open Flt
namespace numTops
theorem top_kind (k : Int) (n : Nat) (hn : U64 n) (h : topE k = 0) : kind (topB k) = k ∧ (kind n = k → lessB (topB k) n = false) := by
  have hk : k = 0 ∨ k = 1 ∨ k = 2 ∨ k = 3 ∨ k = 4 := by
    unfold topE at h
    by_cases h0 : k = 0
    · exact Or.inl h0
    by_cases h1 : k = 1
    · exact Or.inr (Or.inl h1)
    by_cases h2 : k = 2
    · exact Or.inr (Or.inr (Or.inl h2))
    by_cases h3 : k = 3
    · exact Or.inr (Or.inr (Or.inr (Or.inl h3)))
    by_cases h4 : k = 4
    · exact Or.inr (Or.inr (Or.inr (Or.inr h4)))
    rw [if_neg h0, if_neg h1, if_neg h2, if_neg h3, if_neg h4] at h
    omega
  have hr : ∀ b : Nat, b < 9218868437227405313 → (isNan n = true ∨ b < n % 9223372036854775808) ∨ lessB b n = false := by
    intro b hb
    cases hN : isNan n
    · by_cases g : b < n % 9223372036854775808
      · exact Or.inl (Or.inr g)
      · refine Or.inr ?_
        have nb : isNan b = false := (isNan_false_iff b).2 (by omega)
        have hb' := rank_lo b nb (by omega)
        unfold lessB
        rw [decide_eq_false_iff_not, hb']
        by_cases h2 : 9223372036854775808 ≤ n
        · rw [rank_hi n hN hn h2]; unfold U64 at hn; omega
        · rw [rank_lo n hN (by omega)]; omega
    · exact Or.inl (Or.inl rfl)
  have hkn : ∀ j : Int, kind n = j → j ≠ 0 → isNan n = false := by
    intro j hj hj0
    cases hN : isNan n
    · rfl
    · exfalso; apply hj0; rw [← hj]; unfold kind; rw [if_pos ((isNan_iff n).1 hN)]
  have hb : ∀ b : Nat, b < 9218868437227405313 → ∀ j : Int, j ≠ 0 → (kind n = j → n % 9223372036854775808 ≤ b) → kind n = j → lessB b n = false := by
    intro b hb j hj0 hle hj
    rcases hr b hb with (h1 | h1) | h1
    · rw [hkn j hj hj0] at h1; cases h1
    · have := hle hj; omega
    · exact h1
  have hkind : ∀ j : Int, kind n = j → (j = 1 → n % 9223372036854775808 ≤ 9218868437227405312) ∧ (j = 2 → n % 9223372036854775808 ≤ 9218868437227405311) ∧ (j = 3 → n % 9223372036854775808 ≤ 4503599627370495) ∧ (j = 4 → n % 9223372036854775808 ≤ 0) := by
    intro j hj
    unfold kind at hj
    split at hj
    · omega
    · split at hj
      · omega
      · split at hj
        · omega
        · split at hj <;> omega
  rcases hk with rfl | rfl | rfl | rfl | rfl
  · refine ⟨by decide, fun hj => ?_⟩
    show lessB 9221120237041090561 n = false
    exact less_nan_left _ _ hn (by decide)
  · exact ⟨by decide, hb 9218868437227405312 (by omega) 1 (by omega) (fun h => (hkind 1 h).1 rfl)⟩
  · exact ⟨by decide, hb 9218868437227405311 (by omega) 2 (by omega) (fun h => (hkind 2 h).2.1 rfl)⟩
  · exact ⟨by decide, hb 4503599627370495 (by omega) 3 (by omega) (fun h => (hkind 3 h).2.2.1 rfl)⟩
  · exact ⟨by decide, hb 0 (by omega) 4 (by omega) (fun h => (hkind 4 h).2.2.2 rfl)⟩
theorem topB_clean (k : Int) : clean (topB k) = topB k := by
  unfold topB
  split
  · decide
  · split
    · decide
    · split
      · decide
      · split <;> decide
theorem topB_U64 (k : Int) : U64 (topB k) := by
  unfold topB U64
  split
  · omega
  · split
    · omega
    · split
      · omega
      · split <;> omega
theorem walk (a0 a1 : Int) (w0 : (Lit.int .i64 a0).wf = true) (w1 : (Lit.int .u64 a1).wf = true) (w : World) :
    Calls Try.prog 6 #[.int .i64 a0, .int .u64 a1] w fun e w' => e = .returned (.bool true) ∧ Grown w w' := by
  clear w0
  obtain ⟨h1, k1⟩ := wf_u64 w1
  obtain ⟨n, rfl⟩ := Int.eq_ofNat_of_zero_le h1
  rw [Int.toNat_natCast] at k1
  have c1 := clean_U64 n k1
  clear w1 h1
  have t1 := topB_clean a0
  have t2 := topB_U64 a0
  have t3 := top_kind a0 (clean n) c1
  by_cases h : topE a0 = 0
  · obtain ⟨t4, t5⟩ := t3 h
    by_cases hk : kind (clean n) = a0
    · have t6 := t5 hk
      have t7 : (kind (clean n) != a0) = false := by simp [hk]
      have t8 : (topE a0 != 0) = false := by simp [h]
      clear t5 t3 hk h
      go_enter Try.func6, Try.ntmps6
      go_wp2_with (first
    | (go_at_call 12; refine (alive_c _).mono ?_; rintro e w' ⟨rfl, rfl⟩)
    | (go_at_call 13; refine (of_c _ _).mono ?_; rintro e w' ⟨rfl, rfl⟩)
    | (go_at_call 14; refine (bits_c _ _).mono ?_; rintro e w' ⟨rfl, rfl⟩)
    | (go_at_call 20; refine (less_c _ _ _ (by assumption) (by assumption)).mono ?_; rintro e w' ⟨rfl, rfl⟩)
    | (go_at_call 17; refine (kind_c _ _ (by assumption)).mono ?_; rintro e w' ⟨rfl, rfl⟩)
    | (go_at_call 22; refine (reftop_c _ _).mono ?_; rintro e w' ⟨rfl, rfl⟩)
    | (go_at_call 11; refine (top_c _ _).mono ?_; rintro e w' ⟨rfl, rfl⟩))
      go_ret
      exact ⟨rfl, Grown.refl _⟩
    · have t7 : (kind (clean n) != a0) = true := by simp [hk]
      have t8 : (topE a0 != 0) = false := by simp [h]
      clear t5 t3 hk h
      go_enter Try.func6, Try.ntmps6
      go_wp2_with (first
    | (go_at_call 12; refine (alive_c _).mono ?_; rintro e w' ⟨rfl, rfl⟩)
    | (go_at_call 13; refine (of_c _ _).mono ?_; rintro e w' ⟨rfl, rfl⟩)
    | (go_at_call 14; refine (bits_c _ _).mono ?_; rintro e w' ⟨rfl, rfl⟩)
    | (go_at_call 20; refine (less_c _ _ _ (by assumption) (by assumption)).mono ?_; rintro e w' ⟨rfl, rfl⟩)
    | (go_at_call 17; refine (kind_c _ _ (by assumption)).mono ?_; rintro e w' ⟨rfl, rfl⟩)
    | (go_at_call 22; refine (reftop_c _ _).mono ?_; rintro e w' ⟨rfl, rfl⟩)
    | (go_at_call 11; refine (top_c _ _).mono ?_; rintro e w' ⟨rfl, rfl⟩))
      go_ret
      exact ⟨rfl, Grown.refl _⟩
  · have t8 : (topE a0 != 0) = true := by simp [h]
    clear t3 h
    go_enter Try.func6, Try.ntmps6
    go_wp2_with (first
    | (go_at_call 12; refine (alive_c _).mono ?_; rintro e w' ⟨rfl, rfl⟩)
    | (go_at_call 13; refine (of_c _ _).mono ?_; rintro e w' ⟨rfl, rfl⟩)
    | (go_at_call 14; refine (bits_c _ _).mono ?_; rintro e w' ⟨rfl, rfl⟩)
    | (go_at_call 20; refine (less_c _ _ _ (by assumption) (by assumption)).mono ?_; rintro e w' ⟨rfl, rfl⟩)
    | (go_at_call 17; refine (kind_c _ _ (by assumption)).mono ?_; rintro e w' ⟨rfl, rfl⟩)
    | (go_at_call 22; refine (reftop_c _ _).mono ?_; rintro e w' ⟨rfl, rfl⟩)
    | (go_at_call 11; refine (top_c _ _).mono ?_; rintro e w' ⟨rfl, rfl⟩))
    go_ret
    exact ⟨rfl, Grown.refl _⟩
end numTops
end Go.Proofs.Ytknmgomfhppgeaa
