/- A slice of views that came in (any numbers), opened. -/
import Derived.Test.YtofjdfnoibfdfaaOpen
import Derived.Deep.SlicePairs
namespace Go.Proofs.Ytofjdfnoibfdfaa
open Go.ChangeShapes Go.WideShapes Go.ChangeAt Go.RowKit

/-- the slice A holds the views vs (of any numbers), below block B -/
def Rvi (w : World) (B : Nat) (A : Option Addr) (vs : List (Int × Int)) : Prop :=
  0 < vs.length → ∃ b o, A = some ⟨b, o, none⟩ ∧ b < B ∧ ∀ (j : Nat) (v : Int × Int), vs[j]? = some v → w.cell? ⟨b, o + j * 2, none⟩ = some (.int .i64 v.1) ∧ w.cell? ⟨b, o + j * 2 + 1, none⟩ = some (.int .i64 v.2)
theorem Rvi.nil {w : World} {B : Nat} {A : Option Addr} : Rvi w B A [] := fun h => absurd h (by simp)
theorem Rvi.below {w w' : World} {B : Nat} {A : Option Addr} {vs : List (Int × Int)} (h : Rvi w B A vs) (hb : Below B w w') : Rvi w' B A vs := by
  intro hn
  obtain ⟨b, o, e, hB, hc⟩ := h hn
  exact ⟨b, o, e, hB, fun j v hv => ⟨(hb.cell (p := ⟨b, o + j * 2, none⟩) hB).trans (hc j v hv).1, (hb.cell (p := ⟨b, o + j * 2 + 1, none⟩) hB).trans (hc j v hv).2⟩⟩

theorem open_views {H : Type} {enc : TypeId × Value → H} {W : World} {b0 : Nat} {t : TypeId} {v : Value} {d : DataW H} {p : List MemPlace} (ht : Try.prog.underlying t = some (.slice 25))
    (hval : Value.okWide Try.prog W .any b0 t v) (h : DataW.Trod enc Try.prog W 0 (fun _ => true) true t v d p) (hlt : ∀ x ∈ p, x.block < W.heap.size) :
    ∃ A n c, ∃ vs : List (Int × Int), v = .slice A n c ∧ n = vs.length ∧ n ≤ c ∧ c ≤ maxLen ∧ Rvi W W.heap.size A vs ∧ Places d c := by
  obtain ⟨a0, len, cap, rfl⟩ := okWide_slice ht hval
  obtain ⟨fuel, hf⟩ := h
  rcases Deep.open_slice_pairs ht Try.underlying25 (by kernel_rfl) rfl rfl (by kernel_rfl) (by kernel_rfl) hf with ⟨hcs, hx⟩ | ⟨a, len', cap', m, fl, V0, V1, D0, D1, P0, P1, hcs, _, hl, hm, hmm, hx, hrow⟩
  · simp [Value.cells] at hcs
    obtain ⟨rfl, rfl, rfl⟩ := hcs
    simp only [Prod.mk.injEq] at hx
    obtain ⟨rfl, rfl⟩ := hx
    exact ⟨none, 0, 0, [], rfl, rfl, Nat.le_refl _, by simp, Rvi.nil, Or.inl ⟨rfl, rfl⟩⟩
  · simp [Value.cells] at hcs
    obtain ⟨rfl, rfl, rfl⟩ := hcs
    simp only [Prod.mk.injEq] at hx
    obtain ⟨rfl, rfl⟩ := hx
    simp only [if_true] at hmm
    subst hmm
    let f : Nat → Int × Int := fun r => (intOf (V0 r), intOf (V1 r))
    refine ⟨some a, len, _, (List.range len).map f, rfl, by simp, hl, hm, ?_, Or.inr ⟨_, _, rfl, by simp; omega⟩⟩
    intro hpos
    simp only [List.length_map, List.length_range] at hpos
    obtain ⟨b, off, spot⟩ := a
    have hspot : spot = none := by simpa [Addr.add] using World.cell?_spot (hrow 0 (by omega)).1
    subst hspot
    refine ⟨b, off, rfl, hlt (.cell b off) (List.mem_append_left _ (MemPlace.mem_row.2 ⟨0, by omega, by simp⟩)), fun j u hu => ?_⟩
    rw [List.getElem?_map] at hu
    rcases Nat.lt_or_ge j len with hj | hj
    · rw [List.getElem?_range hj] at hu
      simp only [Option.map_some, Option.some.injEq] at hu
      subst hu
      obtain ⟨h0, h1, g0, g1⟩ := hrow j (by omega)
      obtain ⟨x, ex, _, _⟩ := DataW.trod_int Try.underlying3 g0
      obtain ⟨y, ey, _, _⟩ := DataW.trod_int Try.underlying3 g1
      simp only [List.cons.injEq, and_true] at ex ey
      rw [add_plain] at h0 h1
      show W.cell? _ = some (.int .i64 (intOf (V0 j))) ∧ W.cell? _ = some (.int .i64 (intOf (V1 j)))
      rw [ex] at h0 ⊢
      rw [ey] at h1 ⊢
      exact ⟨h0, h1⟩
    · rw [List.getElem?_eq_none (by simpa using hj)] at hu
      cases hu
end Go.Proofs.Ytofjdfnoibfdfaa
