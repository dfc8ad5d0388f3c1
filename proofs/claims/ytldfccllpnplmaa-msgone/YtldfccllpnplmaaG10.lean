/- Contracts and words on which the claims of this seat stand, part 10: LgJ LgJb LgJc. -/
import Derived.Test.YtldfccllpnplmaaG01
import Derived.Test.YtldfccllpnplmaaG09
set_option linter.unusedSimpArgs false
set_option linter.unusedVariables false
namespace Go.Proofs.Ytldfccllpnplmaa.Lgw
set_option maxRecDepth 20000
open Go.RowKit
open Bk Lg Wire
open Tgw (hat hbe)
open Rg (bal)

theorem eqv (d : Nat) (a b c e : Int) (w : World) : (Op.equalIn (d + 2) 25 (.agg #[.int .i64 a, .int .i64 b]) (.agg #[.int .i64 c, .int .i64 e])).run Try.prog w = .ok (a == c && b == e) w := by
  have u3 := Try.underlying3
  have a3 := Try.isAgg3
  have z3 := Try.sizeOf3
  have hS : Try.prog.underlying 25 = some (.struct (Try.prog.fieldsOf 25)) := by kernel_rfl
  rw [run_equalIn_agg w (d + 1) 25 _ _ hS (by kernel_rfl)]
  simp only [Program.fieldsOf, Try.underlying25]
  go_simp
  by_cases h1 : a = c <;> by_cases h2 : b = e <;> simp [h1, h2]
theorem eqt (d : Nat) (a b c e : Int) (w : World) : (Op.equalIn (d + 2) 49 (.agg #[.int .i64 a, .int .i64 b]) (.agg #[.int .i64 c, .int .i64 e])).run Try.prog w = .ok (a == c && b == e) w := by
  have u3 := Try.underlying3
  have a3 := Try.isAgg3
  have z3 := Try.sizeOf3
  have hS : Try.prog.underlying 49 = some (.struct (Try.prog.fieldsOf 49)) := by kernel_rfl
  rw [run_equalIn_agg w (d + 1) 49 _ _ hS (by kernel_rfl)]
  simp only [Program.fieldsOf, Try.underlying49]
  go_simp
  by_cases h1 : a = c <;> by_cases h2 : b = e <;> simp [h1, h2]
theorem eqf (d : Nat) (w : World) : (Op.equalIn (d + 1) 50 (.float .f64 0) (.float .f64 0)).run Try.prog w = .ok true w := by
  simp [Op.equalIn, run_underlying Try.underlying50]
  decide +kernel
theorem eqc (d : Nat) (n a b m c e : Int) (w : World) : (Op.equalIn (d + 3) 47 (.agg #[.int .i64 n, .int .i64 a, .int .i64 b]) (.agg #[.int .i64 m, .int .i64 c, .int .i64 e])).run Try.prog w = .ok (n == m && (a == c && b == e)) w := by
  have u3 := Try.underlying3
  have a3 := Try.isAgg3
  have z3 := Try.sizeOf3
  have a4 := Try.isAgg25
  have z4 := Try.sizeOf25
  have hv := eqv d a b c e
  have hS : Try.prog.underlying 47 = some (.struct (Try.prog.fieldsOf 47)) := by kernel_rfl
  rw [run_equalIn_agg w (d + 2) 47 _ _ hS (by kernel_rfl)]
  simp only [Program.fieldsOf, Try.underlying47]
  go_simp
  by_cases h1 : n = m <;> by_cases h2 : a = c <;> by_cases h3 : b = e <;> simp [h1, h2, h3]
theorem eqe (d : Nat) (k a b l c e : Int) (w : World) : (Op.equalIn (d + 3) 52 (.agg #[.int .i64 k, .int .i64 a, .int .i64 b, .float .f64 0]) (.agg #[.int .i64 l, .int .i64 c, .int .i64 e, .float .f64 0])).run Try.prog w = .ok (k == l && (a == c && b == e)) w := by
  have u3 := Try.underlying3
  have a3 := Try.isAgg3
  have z3 := Try.sizeOf3
  have a4 := Try.isAgg49
  have z4 := Try.sizeOf49
  have a5 := Try.isAgg50
  have z5 := Try.sizeOf50
  have hv := eqt d a b c e
  have hf := eqf (d + 1)
  have hS : Try.prog.underlying 52 = some (.struct (Try.prog.fieldsOf 52)) := by kernel_rfl
  rw [run_equalIn_agg w (d + 2) 52 _ _ hS (by kernel_rfl)]
  simp only [Program.fieldsOf, Try.underlying52]
  go_simp
  by_cases h1 : k = l <;> by_cases h2 : a = c <;> by_cases h3 : b = e <;> simp [h1, h2, h3]
end Go.Proofs.Ytldfccllpnplmaa.Lgw

namespace Go.Proofs.Ytldfccllpnplmaa.Lgw
set_option maxRecDepth 20000
open Go.RowKit
open Bk Lg Wire
open Tgw (hat hbe)
open Rg (bal)

/-- the same record but for the value -/
def eqR (x y : R) : Bool := x.kind == y.kind && ((x.va == y.va && x.vd == y.vd) && ((x.cn == y.cn && (x.ca == y.ca && x.cd == y.cd)) && ((x.e.key == y.e.key && (x.e.num == y.e.num && x.e.node == y.e.node)) && x.n == y.n)))
theorem alikeR_eq (x y : R) : alikeR x y = (Flt.sameB x.e.val y.e.val && eqR x y) := by
  refine Bool.eq_iff_iff.2 ?_
  rw [alikeR_iff, alike_iff]
  unfold Flt.sameB eqR
  simp only [Bool.and_eq_true, decide_eq_true_eq, beq_iff_eq]
  constructor
  · rintro ⟨h1, h2, h3, h4, h5, h6, h7, h8, h9, h10, h11⟩
    exact ⟨h11, h1, ⟨h2, h3⟩, ⟨h4, h5, h6⟩, ⟨h8, h9, h10⟩, h7⟩
  · rintro ⟨h11, h1, ⟨h2, h3⟩, ⟨h4, h5, h6⟩, ⟨h8, h9, h10⟩, h7⟩
    exact ⟨h1, h2, h3, h4, h5, h6, h7, h8, h9, h10, h11⟩
end Go.Proofs.Ytldfccllpnplmaa.Lgw

namespace Go.Proofs.Ytldfccllpnplmaa.Lgw
set_option maxRecDepth 20000
open Go.RowKit
open Bk Lg Wire
open Tgw (hat hbe)
open Rg (bal)

end Go.Proofs.Ytldfccllpnplmaa.Lgw
