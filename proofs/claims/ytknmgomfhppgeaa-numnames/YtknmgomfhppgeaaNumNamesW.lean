/- The walk of NumNames. -/
import Derived.Test.YtknmgomfhppgeaaNumA
import Derived.RowKit3
namespace Go.Proofs.Ytknmgomfhppgeaa.numNames
open Go.RowKit
open Flt

theorem walk (w : World) : Calls Try.prog 3 #[] w fun e w' => e = .returned (.bool true) ∧ Grown w w' := by
  have t1 : topE 5 = 11 := by decide
  go_enter Try.func3, Try.ntmps3
  go_wp2_with (first
    | (go_at_call 11; refine (top_c _ _).mono ?_; rintro e w' ⟨rfl, rfl⟩)
    | (go_at_call 12; refine (alive_c _).mono ?_; rintro e w' ⟨rfl, rfl⟩))
  go_ret
  exact ⟨rfl, Grown.refl _⟩
end Go.Proofs.Ytknmgomfhppgeaa.numNames
