/- A view that came in (two integers), and slices of int, opened. -/
import Derived.Test.YtofjdfnoibfdfaaOpen
import Derived.Lib.SmallJoins
namespace Go.Proofs.Ytofjdfnoibfdfaa
open Go.ChangeShapes Go.WideShapes Go.ChangeAt Go.RowKit

theorem open_i64 {H : Type} {enc : TypeId × Value → H} {W : World} {b0 : Nat} {t e : TypeId} {v : Value} {d : DataW H} {p : List MemPlace} (ht : Try.prog.underlying t = some (.slice e)) (he : Try.prog.underlying e = some (.int .i64)) (hc : Try.prog.cellsOf e = 1)
    (hval : Value.okWide Try.prog W .any b0 t v) (h : DataW.Trod enc Try.prog W 0 (fun _ => true) true t v d p) (hlt : ∀ x ∈ p, x.block < W.heap.size) :
    ∃ A n c, ∃ zs : List Int, v = .slice A n c ∧ n = zs.length ∧ n ≤ c ∧ Rd W W.heap.size A (zs.map (Value.int .i64)) ∧ (∀ z ∈ zs, (Lit.int .i64 z).wf = true) ∧ Places d c := by
  obtain ⟨A, n, c, zs, hv, hn, hnc, _, hr, hw, hd⟩ := open_zs ht he hc hval h hlt
  exact ⟨A, n, c, zs, hv, hn, hnc, hr, hw, hd⟩

theorem open_view {H : Type} {enc : TypeId × Value → H} {W : World} {b0 : Nat} {v : Value} {d : DataW H} {p : List MemPlace}
    (hval : Value.okWide Try.prog W .any b0 25 v) (h : DataW.Trod enc Try.prog W 0 (fun _ => true) true 25 v d p) :
    ∃ a b : Int, v = .agg #[.int .i64 a, .int .i64 b] ∧ (Lit.int .i64 a).wf = true ∧ (Lit.int .i64 b).wf = true := by
  obtain ⟨v0, v1, y0, y1, n, rfl, _, _, h0, h1⟩ := Go.Joins.open_agg2 (P := Try.prog) Try.underlying25 (by kernel_rfl) (by kernel_rfl) hval h
  obtain ⟨a, ea, _, wa⟩ := DataW.trod_int Try.underlying3 h0
  obtain ⟨b, eb, _, wb⟩ := DataW.trod_int Try.underlying3 h1
  simp only [List.cons.injEq, and_true] at ea eb
  exact ⟨a, b, by rw [ea, eb], wa, wb⟩
end Go.Proofs.Ytofjdfnoibfdfaa
