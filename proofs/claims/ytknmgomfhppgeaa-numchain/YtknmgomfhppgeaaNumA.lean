/- The chapter's examples hold: numAlive answers true. -/
import Derived.Test.YtknmgomfhppgeaaNumD
namespace Go.Proofs.Ytknmgomfhppgeaa
open Go.RowKit
open Flt

theorem alive_c (w : World) : Calls Try.prog 12 #[] w fun e w' => e = .returned (.bool true) ∧ w = w' := by
  have u0 : U64 0 := by unfold U64; omega
  have u1 : U64 9223372036854775808 := by unfold U64; omega
  have u2 : U64 18442240474082181120 := by unfold U64; omega
  have u3 : U64 13830554455654793216 := by unfold U64; omega
  have a1 : lessB 9223372036854775808 0 = true := by decide
  have a2 : lessB 0 9223372036854775808 = false := by decide
  have a3 : sameB 0 9223372036854775808 = false := by decide
  have a4 : sameB 9221120237041090561 9221120237041090561 = true := by decide
  have a5 : lessB 18442240474082181120 13830554455654793216 = true := by decide
  have a6 : clean 4607182418800017408 = 4607182418800017408 := by decide
  go_enter Try.func12, Try.ntmps12
  go_wp2_with (first
    | (go_at_call 26; refine (minus_c _).mono ?_; rintro e w' ⟨rfl, rfl⟩)
    | (go_at_call 20; refine (less_c _ _ _ (by assumption) (by assumption)).mono ?_; rintro e w' ⟨rfl, rfl⟩)
    | (go_at_call 19; refine (same_c _ _ _).mono ?_; rintro e w' ⟨rfl, rfl⟩)
    | (go_at_call 23; refine (nan_c _).mono ?_; rintro e w' ⟨rfl, rfl⟩)
    | (go_at_call 24; refine (minf_c _).mono ?_; rintro e w' ⟨rfl, rfl⟩)
    | (go_at_call 14; refine (bits_c _ _).mono ?_; rintro e w' ⟨rfl, rfl⟩))
  go_ret
  exact ⟨rfl, rfl⟩
end Go.Proofs.Ytknmgomfhppgeaa
