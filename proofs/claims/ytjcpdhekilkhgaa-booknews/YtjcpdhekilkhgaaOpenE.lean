/- Slices of entries that came in, opened. -/
import Derived.Test.YtjcpdhekilkhgaaOpenT
import Derived.Test.YtjcpdhekilkhgaaBkX
import Derived.Laws.Cover2
namespace Go.Proofs.Ytjcpdhekilkhgaa
open Go.ChangeShapes Go.WideShapes Go.ChangeAt Go.RowKit
open Tg Bk Bkw

theorem trod_flt {H : Type} {enc : TypeId × Value → H} {W : World} {base fuel : Nat} {sp : Nat → Bool} {held : Bool} {t : TypeId} {cs : List Value} {x : DataW H × List MemPlace} (ht : Try.prog.underlying t = some (.float .f64)) (h : DataW.trod enc Try.prog W base sp held fuel t cs = some x) :
    ∃ n, cs = [.float .f64 n] ∧ (Lit.float .f64 n).wf = true := by
  cases fuel with
  | zero => simp [DataW.trod] at h
  | succ n =>
    unfold DataW.trod at h
    rw [ht] at h
    split at h <;> simp_all
theorem f64_wf {b : Nat} (h : (Lit.float .f64 b).wf = true) : Flt.U64 b := by
  unfold Flt.U64
  simpa [Lit.wf] using h
theorem open_entries {H : Type} {enc : TypeId × Value → H} {W : World} {b0 : Nat} {t : TypeId} {v : Value} {d : DataW H} {p : List MemPlace} (ht : Try.prog.underlying t = some (.slice 26))
    (hval : Value.okWide Try.prog W .any b0 t v) (h : DataW.Trod enc Try.prog W 0 (fun _ => true) true t v d p) (hlt : ∀ x ∈ p, x.block < W.heap.size) :
    ∃ A n c, ∃ es : List E, v = .slice A n c ∧ n = es.length ∧ n ≤ c ∧ Re W W.heap.size A es ∧ (∀ x ∈ es, WfE x) ∧ Places d c := by
  obtain ⟨a0, len, cap, rfl⟩ := okWide_slice ht hval
  obtain ⟨fuel, hf⟩ := h
  have ce : Try.prog.cellsOf 26 = 4 := by kernel_rfl
  rcases Deep.open_slice ht hf with ⟨hcs, hx⟩ | ⟨a, len', cap', m, fl, D, Pl, hcs, _, hl, hm, hmm, hx, hrow⟩
  · simp [Value.cells] at hcs
    obtain ⟨rfl, rfl, rfl⟩ := hcs
    simp only [Prod.mk.injEq] at hx
    obtain ⟨rfl, rfl⟩ := hx
    exact ⟨none, 0, 0, [], rfl, rfl, Nat.le_refl _, Re.nil, by simp, Or.inl ⟨rfl, rfl⟩⟩
  · simp [Value.cells] at hcs
    obtain ⟨rfl, rfl, rfl⟩ := hcs
    simp only [Prod.mk.injEq] at hx
    obtain ⟨rfl, rfl⟩ := hx
    simp only [if_true] at hmm
    subst hmm
    have each : ∀ i, i < m → ∃ e : E, WfE e ∧ ∀ j u, j < 4 → (cellsE e)[j]? = some u → W.cell? (a.add (i * 4 + j)) = some u := by
      intro i hi
      obtain ⟨cs, h1, h2⟩ := hrow i hi
      rw [ce] at h1
      obtain ⟨_, hlen, hcell⟩ := World.cells?_some h1
      obtain ⟨xs, k, hk, hxy, _, hxl, hfd⟩ := DataW.trod_struct Try.underlying26 h2
      match xs, hxl, cs, hlen with
      | [y0, y1, y2], _, [v0, v1, v2, v3], _ =>
        have g0 := hfd 0 _ rfl
        have g1 := hfd 1 _ rfl
        have g2 := hfd 2 _ rfl
        simp only [show Try.prog.cellsOf 3 = 1 from by kernel_rfl, show Try.prog.cellsOf 23 = 2 from by kernel_rfl, show Try.prog.cellsOf 24 = 1 from by kernel_rfl, List.drop_zero, List.drop_succ_cons, List.take_succ_cons, List.take_zero, List.getElem?_cons_zero, List.getElem?_cons_succ] at g0 g1 g2
        obtain ⟨x0, e0, _, w0⟩ := DataW.trod_int Try.underlying3 g0
        obtain ⟨x3, e3, w3⟩ := trod_flt Try.underlying24 g2
        obtain ⟨zs, k2, hk2, _, _, hzl, hfz⟩ := DataW.trod_struct Try.underlying23 g1
        match zs, hzl with
        | [z0, z1], _ =>
          have q0 := hfz 0 _ rfl
          have q1 := hfz 1 _ rfl
          simp only [show Try.prog.cellsOf 3 = 1 from by kernel_rfl, List.drop_zero, List.drop_succ_cons, List.take_succ_cons, List.take_zero, List.getElem?_cons_zero, List.getElem?_cons_succ] at q0 q1
          obtain ⟨x1, e1, _, w1⟩ := DataW.trod_int Try.underlying3 q0
          obtain ⟨x2, e2, _, w2⟩ := DataW.trod_int Try.underlying3 q1
          obtain rfl : v0 = .int .i64 x0 := (List.cons.inj e0).1
          obtain rfl : v1 = .int .i64 x1 := (List.cons.inj e1).1
          obtain rfl : v2 = .int .i64 x2 := (List.cons.inj e2).1
          obtain rfl : v3 = .float .f64 x3 := (List.cons.inj e3).1
          refine ⟨⟨x0, x1, x2, x3⟩, ⟨i64_wf w0, i64_wf w1, i64_wf w2, f64_wf w3⟩, fun j u hj hu => ?_⟩
          have := hcell j hj
          rw [Deep.add_add] at this
          rw [this]
          exact hu
    let f : Nat → E := fun r => if h : r < m then (each r h).choose else zero 0
    have hat : ∀ j, j < m → WfE (f j) ∧ ∀ i u, i < 4 → (cellsE (f j))[i]? = some u → W.cell? (a.add (j * 4 + i)) = some u := by
      intro j hj
      have := (each j hj).choose_spec
      simp only [f, dif_pos hj]
      exact this
    refine ⟨some a, len, _, (List.range len).map f, rfl, by simp, hl, ?_, ?_, Or.inr ⟨_, _, rfl, by simp; omega⟩⟩
    · intro hpos
      simp only [List.length_map, List.length_range] at hpos
      obtain ⟨b, off, spot⟩ := a
      have hspot : spot = none := by simpa [Addr.add] using World.cell?_spot ((hat 0 (by omega)).2 0 _ (by omega) rfl)
      subst hspot
      refine ⟨b, off, rfl, hlt (.cell b off) (List.mem_append_left _ (MemPlace.mem_row.2 ⟨0, by rw [ce]; omega, by simp⟩)), fun j u hu => ?_⟩
      rw [List.getElem?_map] at hu
      rcases Nat.lt_or_ge j len with hj | hj
      · rw [List.getElem?_range hj] at hu
        simp only [Option.map_some, Option.some.injEq] at hu
        subst hu
        refine four_of fun i u hi hu => ?_
        have := (hat j (by omega)).2 i u hi hu
        rw [add_plain] at this
        rw [Nat.add_assoc]
        exact this
      · rw [List.getElem?_eq_none (by simpa using hj)] at hu
        cases hu
    · intro x hx
      obtain ⟨j, hj, rfl⟩ := List.mem_map.1 hx
      exact (hat j (by have := List.mem_range.1 hj; omega)).1
end Go.Proofs.Ytjcpdhekilkhgaa
