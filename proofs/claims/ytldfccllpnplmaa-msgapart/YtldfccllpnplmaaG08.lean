/- Contracts and words on which the claims of this seat stand, part 8: LgU LgUo LgUv. -/
import Derived.Test.YtldfccllpnplmaaG01
import Derived.Test.YtldfccllpnplmaaG07
set_option linter.unusedSimpArgs false
set_option linter.unusedVariables false
namespace Go.Proofs.Ytldfccllpnplmaa.Lgw
set_option maxRecDepth 20000
open Go.RowKit
open Bk Lg Wire
open Tgw (hat hbe)
open Rg (bal)

/-- numbers that are in memory now -/
def Sn (w : World) (A : Option Addr) (n c : Nat) (ns : List Nat) : Prop := n = ns.length ∧ n ≤ c ∧ n ≤ 140737488355328 ∧ (∀ x ∈ ns, W64 x) ∧ Rd w w.heap.size A (ns.map N64)
theorem Sn.all {w w' : World} {A : Option Addr} {n c : Nat} {ns : List Nat} (h : Sn w A n c ns) (hb : Below w.heap.size w w') : Sn w' A n c ns := ⟨h.1, h.2.1, h.2.2.1, h.2.2.2.1, (h.2.2.2.2.below hb).more hb.size⟩
theorem named_set (n : Nat) : (Chgw.gv (Chgw.namedF (n : Int))).1 = setA n ∧ (Chgw.gv (Chgw.namedF (n : Int))).2 = setD n := by
  unfold Chgw.namedF setA setD
  by_cases h : n < 4096
  · rw [if_pos (by omega), if_pos h, if_pos h]
    exact ⟨rfl, rfl⟩
  · rw [if_neg (by omega), if_neg h, if_neg h]
    exact ⟨rfl, rfl⟩
theorem atN_le (ns : List Nat) (i : Nat) : atN ns i ≤ 1099511627776 := by
  unfold atN top
  split
  · split <;> omega
  · omega
/-- a record is answered -/
def RetRec (w : World) (r : R) (e : Ending) (w' : World) : Prop := e = .returned (rvv r) ∧ Below w.heap.size w w'
end Go.Proofs.Ytldfccllpnplmaa.Lgw

namespace Go.Proofs.Ytldfccllpnplmaa.Lgw
set_option maxRecDepth 20000
open Go.RowKit
open Bk Lg Wire
open Tgw (hat hbe)
open Rg (bal)

end Go.Proofs.Ytldfccllpnplmaa.Lgw

namespace Go.Proofs.Ytldfccllpnplmaa.Lgw
set_option maxRecDepth 20000
open Go.RowKit
open Bk Lg Wire
open Tgw (hat hbe)
open Rg (bal)

theorem frombits9 (n : Int) (w : World) : (callFunc 50 #[.int .u64 n]).run Try.prog w = .ok (.value (.float .f64 n.toNat)) w :=
  run_callFunc_extern Try.func50 (by kernel_rfl) (by kernel_rfl) (by kernel_rfl) (e := Extern.MathFloatBits.float64frombits) (by kernel_rfl) _ w
end Go.Proofs.Ytldfccllpnplmaa.Lgw
