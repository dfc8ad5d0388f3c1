/- The walk of WireNames. -/
import Derived.Test.YtlfolpbgekchjaaWireT
namespace Go.Proofs.Ytlfolpbgekchjaa.wireNames
open Go.RowKit
open Wire

theorem walk (w : World) : Calls Try.prog 3 #[] w fun e w' => e = .returned (.bool true) ∧ Below w.heap.size w w' := by
  have hb0 : 0 ≤ big := Nat.zero_le _
  go_enter Try.func3, Try.ntmps3
  go_wp2_with fail
  refine (get_c _ _ _ [] rfl (Nat.le_refl _) 0 _ Rd.nil (Nat.zero_le _) hb0).mono ?_
  rintro e w1 ⟨hb1, h1⟩
  have h1' : e = .returned (.tuple #[.int .u64 0, .slice none 0 0, .int .i64 21]) := h1
  clear h1
  subst h1'
  have HB1 := Lib.hid hb1; clear hb1
  go_wp2_with fail
  refine (alive_c _).mono ?_
  rintro e w2 ⟨rfl, hb2⟩
  have HB2 := Lib.hid hb2; clear hb2
  go_wp2
  go_ret
  exact ⟨rfl, HB1.out.trans (HB2.out.mono HB1.out.size)⟩
end Go.Proofs.Ytlfolpbgekchjaa.wireNames
