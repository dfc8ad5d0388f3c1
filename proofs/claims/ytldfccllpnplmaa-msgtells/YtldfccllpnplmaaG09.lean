/- Contracts and words on which the claims of this seat stand, part 9: LgX LgY. -/
import Derived.Test.YtldfccllpnplmaaG08
set_option linter.unusedSimpArgs false
set_option linter.unusedVariables false
namespace Go.Proofs.Ytldfccllpnplmaa.Lgw
set_option maxRecDepth 20000
open Go.RowKit
open Bk Lg Wire
open Tgw (hat hbe)
open Rg (bal)

/-- the record with which bytes begin, how many bytes it is, and whether there is one -/
def RetFirst (w : World) (b : List UInt8) (e : Ending) (w' : World) : Prop :=
  Below w.heap.size w w' ∧ ((∃ r n, First b r n ∧ e = .returned (.tuple #[rvv r, .int .i64 (n : Nat), .bool true])) ∨ ((∀ r n, ¬ First b r n) ∧ e = .returned (.tuple #[rvv zeroR, .int .i64 0, .bool false])))
theorem ownN_cap {w : World} {base : Nat} {A : Option Addr} {n c : Nat} {ns : List Nat} (h : OwnN w base A n c ns) : n ≤ c := by
  obtain ⟨A', c', e, h1, _⟩ := own_slice h.2
  injection e with e1 e2 e3
  omega
/-- the length of a slice -/
def lenS (v : Value) : Nat := match v with
  | .slice _ n _ => n
  | _ => 0
end Go.Proofs.Ytldfccllpnplmaa.Lgw

namespace Go.Proofs.Ytldfccllpnplmaa.Lgw
set_option maxRecDepth 20000
open Go.RowKit
open Bk Lg Wire
open Tgw (hat hbe)
open Rg (bal)

end Go.Proofs.Ytldfccllpnplmaa.Lgw
