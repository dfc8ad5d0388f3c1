/- Two integers in an array that came in, opened. -/
import Derived.Test.YtgcmejhgfdipkaaOpen
import Derived.ChangeSlices
namespace Go.Proofs.Ytgcmejhgfdipkaa
open Go.ChangeShapes Go.WideShapes Go.ChangeAt Go.RowKit

theorem mapM_all {α β : Type} {f : α → Option β} : ∀ {l : List α} {xs : List β}, l.mapM f = some xs → ∀ a ∈ l, ∃ y, f a = some y
  | [], _, _, a, ha => by cases ha
  | x :: l, xs, h, a, ha => by
    rw [List.mapM_cons] at h
    simp only [bind, Option.bind_eq_some_iff, pure, Option.some.injEq] at h
    obtain ⟨y, hy, ys, hys, _⟩ := h
    rcases List.mem_cons.1 ha with rfl | ha
    · exact ⟨y, hy⟩
    · exact mapM_all hys a ha
theorem trod_row {H : Type} {enc : TypeId × Value → H} {W : World} {base : Nat} {sp : Nat → Bool} {held : Bool} {fuel n : Nat} {t e : TypeId} {cs : List Value} {x : DataW H × List MemPlace} (ht : Try.prog.underlying t = some (.array n e)) (h : DataW.trod enc Try.prog W base sp held fuel t cs = some x) :
    ∃ m, ∀ i, i < n → ∃ y, DataW.trod enc Try.prog W base sp held m e ((cs.drop (i * Try.prog.cellsOf e)).take (Try.prog.cellsOf e)) = some y := by
  cases fuel with
  | zero => simp [DataW.trod] at h
  | succ m =>
    refine ⟨m, fun i hi => ?_⟩
    unfold DataW.trod at h
    simp only [ht] at h
    split at h
    · simp only [Option.map_eq_some_iff] at h
      obtain ⟨xs, hx, _⟩ := h
      exact mapM_all hx i (by simpa using hi)
    · cases h
theorem open_n2 {H : Type} {enc : TypeId × Value → H} {W : World} {b0 : Nat} {t e : TypeId} {v : Value} {d : DataW H} {p : List MemPlace} (ht : Try.prog.underlying t = some (.array 2 e)) (he : Try.prog.underlying e = some (.int .i64))
    (ct : Try.prog.cellsOf t = 2) (ce : Try.prog.cellsOf e = 1)
    (hval : Value.okWide Try.prog W .any b0 t v) (h : DataW.Trod enc Try.prog W 0 (fun _ => true) true t v d p) :
    ∃ x y : Int, v = .agg #[.int .i64 x, .int .i64 y] ∧ (Lit.int .i64 x).wf = true ∧ (Lit.int .i64 y).wf = true := by
  simp only [Value.okWide, ht] at hval
  obtain ⟨cs, rfl, hs, _⟩ := hval
  rw [ct] at hs
  obtain ⟨fuel, hf⟩ := h
  obtain ⟨m, hm⟩ := trod_row ht hf
  rw [ce] at hm
  obtain ⟨l⟩ := cs
  simp only [Value.cells, List.size_toArray] at *
  match l, hs with
  | [c0, c1], _ =>
    obtain ⟨_, h0⟩ := hm 0 (by omega)
    obtain ⟨_, h1⟩ := hm 1 (by omega)
    obtain ⟨x, ex, _, wx⟩ := DataW.trod_int he h0
    obtain ⟨y, ey, _, wy⟩ := DataW.trod_int he h1
    simp only [Nat.zero_mul, Nat.one_mul, List.drop_zero, List.drop_succ_cons, List.take_succ_cons, List.take_zero, List.cons.injEq, and_true] at ex ey
    exact ⟨x, y, by rw [ex, ey], wx, wy⟩
end Go.Proofs.Ytgcmejhgfdipkaa
