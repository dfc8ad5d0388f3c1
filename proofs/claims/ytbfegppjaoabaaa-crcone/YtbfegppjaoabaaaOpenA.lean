/- Two arrays of four bytes that came in, opened. -/
import Derived.Test.YtbfegppjaoabaaaOpen
import Derived.ChangeSlices
namespace Go.Proofs.Ytbfegppjaoabaaa
open Go.ChangeShapes Go.WideShapes Go.ChangeAt Go.RowKit

theorem mapM_each {α β : Type} {f : α → Option β} : ∀ {l : List α} {xs : List β}, l.mapM f = some xs → ∀ a ∈ l, ∃ y, f a = some y
  | [], _, _, a, ha => by cases ha
  | x :: l, xs, h, a, ha => by
    rw [List.mapM_cons] at h
    simp only [bind, Option.bind_eq_some_iff, pure, Option.some.injEq] at h
    obtain ⟨y, hy, ys, hys, _⟩ := h
    rcases List.mem_cons.1 ha with rfl | ha
    · exact ⟨y, hy⟩
    · exact mapM_each hys a ha

theorem trod_arr {H : Type} {enc : TypeId × Value → H} {W : World} {base : Nat} {sp : Nat → Bool} {held : Bool} {fuel n : Nat} {t e : TypeId} {cs : List Value} {x : DataW H × List MemPlace} (ht : Try.prog.underlying t = some (.array n e)) (h : DataW.trod enc Try.prog W base sp held fuel t cs = some x) :
    ∃ m, ∀ i, i < n → ∃ y, DataW.trod enc Try.prog W base sp held m e ((cs.drop (i * Try.prog.cellsOf e)).take (Try.prog.cellsOf e)) = some y := by
  cases fuel with
  | zero => simp [DataW.trod] at h
  | succ m =>
    refine ⟨m, fun i hi => ?_⟩
    unfold DataW.trod at h
    simp only [ht] at h
    split at h
    · simp only [Option.map_eq_some_iff] at h
      obtain ⟨xs, hx, _⟩ := h
      exact mapM_each hx i (by simpa using hi)
    · cases h

theorem byte_of {H : Type} {enc : TypeId × Value → H} {W : World} {base : Nat} {sp : Nat → Bool} {held : Bool} {fuel : Nat} {q : TypeId} {v : Value} {y : DataW H × List MemPlace} (hq : Try.prog.underlying q = some (.int .u8)) (h : DataW.trod enc Try.prog W base sp held fuel q [v] = some y) :
    ∃ b : UInt8, v = .int .u8 (b.toNat : Int) := by
  obtain ⟨a, ea, _, wa⟩ := DataW.trod_int hq h
  simp only [List.cons.injEq, and_true] at ea
  have hx : 0 ≤ a ∧ a ≤ 255 := by simpa [Lit.wf, IntKind.min, IntKind.max, IntKind.signed, IntKind.bits] using wa
  refine ⟨UInt8.ofNat a.toNat, ?_⟩
  rw [ea, UInt8.toNat_ofNat']
  congr 1
  omega

theorem open_aa {H : Type} {enc : TypeId × Value → H} {W : World} {b0 : Nat} {t e q : TypeId} {v : Value} {d : DataW H} {p : List MemPlace} (ht : Try.prog.underlying t = some (.array 2 e)) (he : Try.prog.underlying e = some (.array 4 q)) (hq : Try.prog.underlying q = some (.int .u8))
    (ct : Try.prog.cellsOf t = 8) (ce : Try.prog.cellsOf e = 4) (cq : Try.prog.cellsOf q = 1)
    (hval : Value.okWide Try.prog W .any b0 t v) (h : DataW.Trod enc Try.prog W 0 (fun _ => true) true t v d p) :
    ∃ x0 x1 x2 x3 y0 y1 y2 y3 : UInt8, v = .agg #[.int .u8 (x0.toNat : Int), .int .u8 (x1.toNat : Int), .int .u8 (x2.toNat : Int), .int .u8 (x3.toNat : Int), .int .u8 (y0.toNat : Int), .int .u8 (y1.toNat : Int), .int .u8 (y2.toNat : Int), .int .u8 (y3.toNat : Int)] := by
  simp only [Value.okWide, ht] at hval
  obtain ⟨cs, rfl, hs, _⟩ := hval
  rw [ct] at hs
  obtain ⟨fuel, hf⟩ := h
  obtain ⟨m, hm⟩ := trod_arr ht hf
  rw [ce] at hm
  obtain ⟨a, ha⟩ := hm 0 (by omega)
  obtain ⟨b, hb⟩ := hm 1 (by omega)
  obtain ⟨ma, hma⟩ := trod_arr he ha
  obtain ⟨mb, hmb⟩ := trod_arr he hb
  rw [cq] at hma hmb
  obtain ⟨l⟩ := cs
  simp only [Value.cells, List.size_toArray] at *
  match l, hs with
  | [c0, c1, c2, c3, c4, c5, c6, c7], _ =>
    obtain ⟨_, h0⟩ := hma 0 (by omega)
    obtain ⟨_, h1⟩ := hma 1 (by omega)
    obtain ⟨_, h2⟩ := hma 2 (by omega)
    obtain ⟨_, h3⟩ := hma 3 (by omega)
    obtain ⟨_, h4⟩ := hmb 0 (by omega)
    obtain ⟨_, h5⟩ := hmb 1 (by omega)
    obtain ⟨_, h6⟩ := hmb 2 (by omega)
    obtain ⟨_, h7⟩ := hmb 3 (by omega)
    obtain ⟨x0, rfl⟩ := byte_of hq h0
    obtain ⟨x1, rfl⟩ := byte_of hq h1
    obtain ⟨x2, rfl⟩ := byte_of hq h2
    obtain ⟨x3, rfl⟩ := byte_of hq h3
    obtain ⟨y0, rfl⟩ := byte_of hq h4
    obtain ⟨y1, rfl⟩ := byte_of hq h5
    obtain ⟨y2, rfl⟩ := byte_of hq h6
    obtain ⟨y3, rfl⟩ := byte_of hq h7
    exact ⟨x0, x1, x2, x3, y0, y1, y2, y3, rfl⟩
end Go.Proofs.Ytbfegppjaoabaaa
