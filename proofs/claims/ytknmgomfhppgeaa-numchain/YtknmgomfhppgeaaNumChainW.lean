/- The walk of NumChain. -/
import Derived.Test.YtknmgomfhppgeaaNumA
import Derived.Test.YtknmgomfhppgeaaNumL
import Derived.RowKit3
namespace Go.Proofs.Ytknmgomfhppgeaa
open Go.RowKit
open Flt
namespace numChain
theorem last (x y : Nat) (hx : U64 x) (hy : U64 y) :
    (FloatKind.f64.format.order x y == some .gt || FloatKind.f64.format.order x y == some .eq) = true ∨
    ((FloatKind.f64.format.order x y == some .gt || FloatKind.f64.format.order x y == some .eq) = false ∧ (FloatKind.f64.format.order x x != some .eq) = true) ∨
    ((FloatKind.f64.format.order x y == some .gt || FloatKind.f64.format.order x y == some .eq) = false ∧ (FloatKind.f64.format.order x x != some .eq) = false ∧ (FloatKind.f64.format.order y y != some .eq) = true) ∨
    ((FloatKind.f64.format.order x y == some .gt || FloatKind.f64.format.order x y == some .eq) = false ∧ (FloatKind.f64.format.order x x != some .eq) = false ∧ (FloatKind.f64.format.order y y != some .eq) = false ∧ lessB x y = true) := by
  rw [neq_self, neq_self]
  cases h : (FloatKind.f64.format.order x y == some .gt || FloatKind.f64.format.order x y == some .eq)
  · refine Or.inr ?_
    cases nx : isNan x
    · cases ny : isNan y
      · exact Or.inr (Or.inr ⟨rfl, rfl, rfl, less_of_not_ge x y hx hy nx ny h⟩)
      · exact Or.inr (Or.inl ⟨rfl, rfl, rfl⟩)
    · exact Or.inl ⟨rfl, rfl⟩
  · exact Or.inl rfl
theorem walk (a0 a1 a2 : Int) (w0 : (Lit.int .u64 a0).wf = true) (w1 : (Lit.int .u64 a1).wf = true) (w2 : (Lit.int .u64 a2).wf = true) (w : World) :
    Calls Try.prog 7 #[.int .u64 a0, .int .u64 a1, .int .u64 a2] w fun e w' => e = .returned (.bool true) ∧ Grown w w' := by
  obtain ⟨h0, k0⟩ := wf_u64 w0
  obtain ⟨m, rfl⟩ := Int.eq_ofNat_of_zero_le h0
  rw [Int.toNat_natCast] at k0
  have c0 := clean_U64 m k0
  clear w0 h0
  obtain ⟨h1, k1⟩ := wf_u64 w1
  obtain ⟨n, rfl⟩ := Int.eq_ofNat_of_zero_le h1
  rw [Int.toNat_natCast] at k1
  have c1 := clean_U64 n k1
  clear w1 h1
  obtain ⟨h2, k2⟩ := wf_u64 w2
  obtain ⟨k, rfl⟩ := Int.eq_ofNat_of_zero_le h2
  rw [Int.toNat_natCast] at k2
  have c2 := clean_U64 k k2
  clear w2 h2
  have i1 := less_irr (clean m)
  have t := tri (clean m) (clean n) c0 c1
  have f := last (clean m) (clean n) c0 c1
  rcases t with ⟨t1, t2⟩ | ⟨t1, t2⟩ | ⟨t1, t2, t3⟩
  · cases t4 : lessB (clean n) (clean k)
    · rcases f with f1 | ⟨f1, f2⟩ | ⟨f1, f2, f3⟩ | ⟨f1, f2, f3, f4⟩
      all_goals
        go_enter Try.func7, Try.ntmps7
        go_wp2_with (first
    | (go_at_call 12; refine (alive_c _).mono ?_; rintro e w' ⟨rfl, rfl⟩)
    | (go_at_call 13; refine (of_c _ _).mono ?_; rintro e w' ⟨rfl, rfl⟩)
    | (go_at_call 19; refine (same_c _ _ _).mono ?_; rintro e w' ⟨rfl, rfl⟩)
    | (go_at_call 20; refine (less_c _ _ _ (by assumption) (by assumption)).mono ?_; rintro e w' ⟨rfl, rfl⟩))
        go_ret
        exact ⟨rfl, Grown.refl _⟩
    · have t5 := less_trans _ _ _ t1 t4
      rcases f with f1 | ⟨f1, f2⟩ | ⟨f1, f2, f3⟩ | ⟨f1, f2, f3, f4⟩
      all_goals
        go_enter Try.func7, Try.ntmps7
        go_wp2_with (first
    | (go_at_call 12; refine (alive_c _).mono ?_; rintro e w' ⟨rfl, rfl⟩)
    | (go_at_call 13; refine (of_c _ _).mono ?_; rintro e w' ⟨rfl, rfl⟩)
    | (go_at_call 19; refine (same_c _ _ _).mono ?_; rintro e w' ⟨rfl, rfl⟩)
    | (go_at_call 20; refine (less_c _ _ _ (by assumption) (by assumption)).mono ?_; rintro e w' ⟨rfl, rfl⟩))
        go_ret
        exact ⟨rfl, Grown.refl _⟩
  · rcases f with f1 | ⟨f1, f2⟩ | ⟨f1, f2, f3⟩ | ⟨f1, f2, f3, f4⟩
    · skip
      go_enter Try.func7, Try.ntmps7
      go_wp2_with (first
    | (go_at_call 12; refine (alive_c _).mono ?_; rintro e w' ⟨rfl, rfl⟩)
    | (go_at_call 13; refine (of_c _ _).mono ?_; rintro e w' ⟨rfl, rfl⟩)
    | (go_at_call 19; refine (same_c _ _ _).mono ?_; rintro e w' ⟨rfl, rfl⟩)
    | (go_at_call 20; refine (less_c _ _ _ (by assumption) (by assumption)).mono ?_; rintro e w' ⟨rfl, rfl⟩))
      go_ret
      exact ⟨rfl, Grown.refl _⟩
    · skip
      go_enter Try.func7, Try.ntmps7
      go_wp2_with (first
    | (go_at_call 12; refine (alive_c _).mono ?_; rintro e w' ⟨rfl, rfl⟩)
    | (go_at_call 13; refine (of_c _ _).mono ?_; rintro e w' ⟨rfl, rfl⟩)
    | (go_at_call 19; refine (same_c _ _ _).mono ?_; rintro e w' ⟨rfl, rfl⟩)
    | (go_at_call 20; refine (less_c _ _ _ (by assumption) (by assumption)).mono ?_; rintro e w' ⟨rfl, rfl⟩))
      go_ret
      exact ⟨rfl, Grown.refl _⟩
    · skip
      go_enter Try.func7, Try.ntmps7
      go_wp2_with (first
    | (go_at_call 12; refine (alive_c _).mono ?_; rintro e w' ⟨rfl, rfl⟩)
    | (go_at_call 13; refine (of_c _ _).mono ?_; rintro e w' ⟨rfl, rfl⟩)
    | (go_at_call 19; refine (same_c _ _ _).mono ?_; rintro e w' ⟨rfl, rfl⟩)
    | (go_at_call 20; refine (less_c _ _ _ (by assumption) (by assumption)).mono ?_; rintro e w' ⟨rfl, rfl⟩))
      go_ret
      exact ⟨rfl, Grown.refl _⟩
    · rw [t1] at f4; cases f4
  · rcases f with f1 | ⟨f1, f2⟩ | ⟨f1, f2, f3⟩ | ⟨f1, f2, f3, f4⟩
    · skip
      go_enter Try.func7, Try.ntmps7
      go_wp2_with (first
    | (go_at_call 12; refine (alive_c _).mono ?_; rintro e w' ⟨rfl, rfl⟩)
    | (go_at_call 13; refine (of_c _ _).mono ?_; rintro e w' ⟨rfl, rfl⟩)
    | (go_at_call 19; refine (same_c _ _ _).mono ?_; rintro e w' ⟨rfl, rfl⟩)
    | (go_at_call 20; refine (less_c _ _ _ (by assumption) (by assumption)).mono ?_; rintro e w' ⟨rfl, rfl⟩))
      go_ret
      exact ⟨rfl, Grown.refl _⟩
    · skip
      go_enter Try.func7, Try.ntmps7
      go_wp2_with (first
    | (go_at_call 12; refine (alive_c _).mono ?_; rintro e w' ⟨rfl, rfl⟩)
    | (go_at_call 13; refine (of_c _ _).mono ?_; rintro e w' ⟨rfl, rfl⟩)
    | (go_at_call 19; refine (same_c _ _ _).mono ?_; rintro e w' ⟨rfl, rfl⟩)
    | (go_at_call 20; refine (less_c _ _ _ (by assumption) (by assumption)).mono ?_; rintro e w' ⟨rfl, rfl⟩))
      go_ret
      exact ⟨rfl, Grown.refl _⟩
    · skip
      go_enter Try.func7, Try.ntmps7
      go_wp2_with (first
    | (go_at_call 12; refine (alive_c _).mono ?_; rintro e w' ⟨rfl, rfl⟩)
    | (go_at_call 13; refine (of_c _ _).mono ?_; rintro e w' ⟨rfl, rfl⟩)
    | (go_at_call 19; refine (same_c _ _ _).mono ?_; rintro e w' ⟨rfl, rfl⟩)
    | (go_at_call 20; refine (less_c _ _ _ (by assumption) (by assumption)).mono ?_; rintro e w' ⟨rfl, rfl⟩))
      go_ret
      exact ⟨rfl, Grown.refl _⟩
    · rw [t1] at f4; cases f4
end numChain
end Go.Proofs.Ytknmgomfhppgeaa
