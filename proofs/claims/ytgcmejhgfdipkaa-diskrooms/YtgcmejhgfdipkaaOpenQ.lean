/- Slices of texts and slices of acts that came in, opened, without the bound. -/
import Derived.Test.YtgcmejhgfdipkaaOpen
import Derived.Test.YtgcmejhgfdipkaaDkX
import Derived.ChangeSlices
import Derived.Deep.SlicePairs
namespace Go.Proofs.Ytgcmejhgfdipkaa
open Go.ChangeShapes Go.WideShapes Go.ChangeAt Go.RowKit
open Dk Dkw

theorem weights_all {H : Type} {P : Program} {e : TypeId} : ∀ {l : List (DataW H)} {d : DataW H}, d ∈ l → ∀ n ∈ d.weights P e, n ∈ DataW.weightsAll P e l
  | [], _, h, _, _ => by cases h
  | x :: l, d, h, n, hn => by
    simp only [DataW.weightsAll, List.mem_append]
    rcases List.mem_cons.1 h with rfl | h
    · exact Or.inl hn
    · exact Or.inr (weights_all h n hn)
theorem text_of {H : Type} {enc : TypeId × Value → H} {W : World} {fuel : Nat} {t e : TypeId} {cs : List Value} {x : DataW H × List MemPlace} (ht : Try.prog.underlying t = some (.slice e)) (he : Try.prog.underlying e = some (.int .u8)) (hc : Try.prog.cellsOf e = 1) (hb : Try.prog.bytesOf e = 1)
    (h : DataW.trod enc Try.prog W 0 (fun _ => true) true fuel t cs = some x) :
    ∃ p : Pt, cs = [p.v] ∧ p.n = p.bs.length ∧ p.n ≤ p.c ∧ (p.c = 0 ∨ p.c ∈ x.1.weights Try.prog t) ∧ ((∀ y ∈ x.2, y.block < W.heap.size) → Rd W W.heap.size p.a (p.bs.map B8)) := by
  rcases open_ints ht he hc h with ⟨rfl, rfl⟩ | ⟨a, len, cap, zs, rfl, _, hl, hm, hz, rfl, hcell, hwz⟩
  · exact ⟨⟨none, 0, 0, []⟩, rfl, rfl, Nat.le_refl _, Or.inl rfl, fun _ => Rd.nil⟩
  · simp only [if_true] at hz
    have hx : ∀ z ∈ zs, 0 ≤ z ∧ z ≤ 255 := fun z hz => by simpa [Lit.wf, IntKind.min, IntKind.max, IntKind.signed, IntKind.bits] using hwz z hz
    refine ⟨⟨some a, len, cap, (zs.take len).map fun z => UInt8.ofNat z.toNat⟩, rfl, by simp; omega, hl, Or.inr ?_, fun hlt => ?_⟩
    · simp only [DataW.weights, ht, hb, Nat.mul_one, List.mem_cons]
      left
      simp [lits]
      omega
    · intro hpos
      simp only [List.length_map, List.length_take] at hpos
      obtain ⟨b, off, spot⟩ := a
      have hspot : spot = none := by simpa [Addr.add] using World.cell?_spot (hcell 0 (by omega))
      subst hspot
      refine ⟨b, off, rfl, hlt (.cell b off) (MemPlace.mem_row.2 ⟨0, by omega, by simp⟩), fun j u hu => ?_⟩
      rw [List.map_map, List.getElem?_map, List.getElem?_take] at hu
      split at hu
      · have hj : j < zs.length := by omega
        rw [List.getElem?_eq_getElem hj] at hu
        simp only [Option.map_some, Option.some.injEq, Function.comp] at hu
        subst hu
        have := hcell j hj
        rw [add_plain] at this
        rw [this]
        have hq := hx _ (List.getElem_mem hj)
        simp only [B8, UInt8.toNat_ofNat', List.getD, List.getElem?_eq_getElem hj, Option.getD_some]
        congr 2
        omega
      · cases hu
/-- a slice of texts -/
theorem open_texts {H : Type} {enc : TypeId × Value → H} {W : World} {b0 : Nat} {t e q : TypeId} {v : Value} {d : DataW H} {p : List MemPlace} (ht : Try.prog.underlying t = some (.slice e)) (he : Try.prog.underlying e = some (.slice q)) (hq : Try.prog.underlying q = some (.int .u8))
    (ce : Try.prog.cellsOf e = 1) (cq : Try.prog.cellsOf q = 1) (bq : Try.prog.bytesOf q = 1)
    (hval : Value.okWide Try.prog W .any b0 t v) (h : DataW.Trod enc Try.prog W 0 (fun _ => true) true t v d p) (hlt : ∀ x ∈ p, x.block < W.heap.size)
    (hw : ∀ n ∈ d.weights Try.prog t, n ≤ reachBytes) :
    ∃ A n c, ∃ ps : List Pt, v = .slice A n c ∧ n = ps.length ∧ n ≤ c ∧ Pts W W.heap.size A ps ∧ Places d c := by
  obtain ⟨a0, len, cap, rfl⟩ := okWide_slice ht hval
  obtain ⟨fuel, hf⟩ := h
  rcases Deep.open_slice ht hf with ⟨hcs, hx⟩ | ⟨a, len', cap', m, fl, D, Pl, hcs, _, hl, hm, hmm, hx, hrow⟩
  · simp [Value.cells] at hcs
    obtain ⟨rfl, rfl, rfl⟩ := hcs
    simp only [Prod.mk.injEq] at hx
    obtain ⟨rfl, rfl⟩ := hx
    exact ⟨none, 0, 0, [], rfl, rfl, Nat.le_refl _, ⟨Rd.nil, by simp⟩, Or.inl ⟨rfl, rfl⟩⟩
  · simp [Value.cells] at hcs
    obtain ⟨rfl, rfl, rfl⟩ := hcs
    simp only [Prod.mk.injEq] at hx
    obtain ⟨rfl, rfl⟩ := hx
    simp only [if_true] at hmm
    subst hmm
    have each : ∀ i, i < len → ∃ x : Pt, x.ok W W.heap.size ∧ W.cell? (a.add i) = some x.v := by
      intro i hi
      obtain ⟨cs, h1, h2⟩ := hrow i (by omega)
      rw [ce, Nat.mul_one] at h1
      obtain ⟨_, hlen, hcell⟩ := World.cells?_some h1
      obtain ⟨x, rfl, hn, hc, hbig, hrd⟩ := text_of he hq cq bq h2
      have h0 := hcell 0 (by omega)
      rw [Deep.add_add, Nat.add_zero] at h0
      refine ⟨x, ⟨hn, hc, ?_, hrd (fun y hy => hlt y (List.mem_append_right _ (List.mem_flatMap.2 ⟨i, by simp; omega, hy⟩)))⟩, ?_⟩
      · rcases hbig with h | h
        · unfold big; omega
        · have := hw x.c (by
            simp only [DataW.weights, ht, List.mem_cons, List.mem_append]
            exact Or.inr (Or.inl (weights_all (List.mem_map.2 ⟨i, by simpa using hi, rfl⟩) _ h)))
          unfold reachBytes at this
          unfold big
          omega
      · rw [h0]; rfl
    let f : Nat → Pt := fun r => if h : r < len then (each r h).choose else ⟨none, 0, 0, []⟩
    have hat : ∀ j, j < len → (f j).ok W W.heap.size ∧ W.cell? (a.add j) = some (f j).v := by
      intro j hj
      have := (each j hj).choose_spec
      simp only [f, dif_pos hj]
      exact this
    refine ⟨some a, len, _, (List.range len).map f, rfl, by simp, hl, ⟨?_, ?_⟩, Or.inr ⟨_, _, rfl, by simp; omega⟩⟩
    · intro hpos
      simp only [List.length_map, List.length_range] at hpos
      obtain ⟨b, off, spot⟩ := a
      have hspot : spot = none := by simpa [Addr.add] using World.cell?_spot (hat 0 (by omega)).2
      subst hspot
      refine ⟨b, off, rfl, hlt (.cell b off) (List.mem_append_left _ (MemPlace.mem_row.2 ⟨0, by rw [ce]; omega, by simp⟩)), fun j u hu => ?_⟩
      rw [List.map_map, List.getElem?_map] at hu
      rcases Nat.lt_or_ge j len with hj | hj
      · rw [List.getElem?_range hj] at hu
        simp only [Option.map_some, Option.some.injEq, Function.comp] at hu
        subst hu
        have := (hat j hj).2
        rw [add_plain] at this
        exact this
      · rw [List.getElem?_eq_none (by simpa using hj)] at hu
        cases hu
    · intro x hx
      obtain ⟨j, hj, rfl⟩ := List.mem_map.1 hx
      exact (hat j (List.mem_range.1 hj)).1
theorem i64_of {a : Int} (h : (Lit.int .i64 a).wf = true) : Dkw.I64 a := by
  unfold Dkw.I64
  simpa [Lit.wf, IntKind.min, IntKind.max, IntKind.signed, IntKind.bits] using h
/-- a slice of structs of two numbers and a text -/
theorem open_acts {H : Type} {enc : TypeId × Value → H} {W : World} {b0 : Nat} {t s e q ti : TypeId} {f0 f1 f2 : Field} {v : Value} {d : DataW H} {p : List MemPlace} (ht : Try.prog.underlying t = some (.slice s)) (hs : Try.prog.underlying s = some (.struct #[f0, f1, f2]))
    (cs : Try.prog.cellsOf s = 3) (o0 : f0.offset = 0) (o1 : f1.offset = 1) (o2 : f2.offset = 2) (t0 : f0.type = ti) (t1 : f1.type = ti) (t2 : f2.type = e)
    (hi : Try.prog.underlying ti = some (.int .i64)) (ci : Try.prog.cellsOf ti = 1) (he : Try.prog.underlying e = some (.slice q)) (hq : Try.prog.underlying q = some (.int .u8))
    (ce : Try.prog.cellsOf e = 1) (cq : Try.prog.cellsOf q = 1) (bq : Try.prog.bytesOf q = 1)
    (hval : Value.okWide Try.prog W .any b0 t v) (h : DataW.Trod enc Try.prog W 0 (fun _ => true) true t v d p) (hlt : ∀ x ∈ p, x.block < W.heap.size)
    (hw : ∀ n ∈ d.weights Try.prog t, n ≤ reachBytes) :
    ∃ A n c, ∃ xs : List Ac, v = .slice A n c ∧ n = xs.length ∧ n ≤ c ∧ Acs W W.heap.size A xs ∧ Places d c := by
  obtain ⟨a0, len, cap, rfl⟩ := okWide_slice ht hval
  obtain ⟨fuel, hf⟩ := h
  rcases Deep.open_slice ht hf with ⟨hcs, hx⟩ | ⟨a, len', cap', m, fl, D, Pl, hcs, _, hl, hm, hmm, hx, hrow⟩
  · simp [Value.cells] at hcs
    obtain ⟨rfl, rfl, rfl⟩ := hcs
    simp only [Prod.mk.injEq] at hx
    obtain ⟨rfl, rfl⟩ := hx
    exact ⟨none, 0, 0, [], rfl, rfl, Nat.le_refl _, ⟨by simp, by simp⟩, Or.inl ⟨rfl, rfl⟩⟩
  · simp [Value.cells] at hcs
    obtain ⟨rfl, rfl, rfl⟩ := hcs
    simp only [Prod.mk.injEq] at hx
    obtain ⟨rfl, rfl⟩ := hx
    simp only [if_true] at hmm
    subst hmm
    have each : ∀ i, i < len → ∃ x : Ac, (Dkw.I64 x.kind ∧ Dkw.I64 x.num ∧ x.pt.ok W W.heap.size) ∧ W.cell? (a.add (i * 3)) = some (.int .i64 x.kind) ∧ W.cell? (a.add (i * 3 + 1)) = some (.int .i64 x.num) ∧ W.cell? (a.add (i * 3 + 2)) = some x.pt.v := by
      intro i hi'
      obtain ⟨vs, h1, h2⟩ := hrow i (by omega)
      rw [cs] at h1
      obtain ⟨_, hlen, hcell⟩ := World.cells?_some h1
      obtain ⟨xs, k, hk, hxy, _, hxl, hfd⟩ := DataW.trod_struct hs h2
      match xs, hxl, vs, hlen with
      | [y0, y1, y2], _, [v0, v1, v2], _ =>
        have g0 := hfd 0 f0 rfl
        have g1 := hfd 1 f1 rfl
        have g2 := hfd 2 f2 rfl
        rw [t0, ci, o0] at g0
        rw [t1, ci, o1] at g1
        rw [t2, ce, o2] at g2
        simp only [List.drop_zero, List.drop_succ_cons, List.take_succ_cons, List.take_zero, List.getElem?_cons_zero, List.getElem?_cons_succ] at g0 g1 g2
        obtain ⟨x0, e0, _, w0⟩ := DataW.trod_int hi g0
        obtain ⟨x1, e1, _, w1⟩ := DataW.trod_int hi g1
        obtain ⟨x2, e2, hn, hc, hbig, hrd⟩ := text_of he hq cq bq g2
        obtain rfl : v0 = .int .i64 x0 := (List.cons.inj e0).1
        obtain rfl : v1 = .int .i64 x1 := (List.cons.inj e1).1
        obtain rfl : v2 = x2.v := (List.cons.inj e2).1
        have c0 := hcell 0 (by omega)
        have c1 := hcell 1 (by omega)
        have c2 := hcell 2 (by omega)
        rw [Deep.add_add] at c0 c1 c2
        simp only [Prod.mk.injEq] at hxy
        refine ⟨⟨x0, x1, x2⟩, ⟨i64_of w0, i64_of w1, hn, hc, ?_, hrd (fun y hy => hlt y (List.mem_append_right _ (List.mem_flatMap.2 ⟨i, by simp; omega, ?_⟩)))⟩, by rw [Nat.add_zero] at c0; exact c0, c1, c2⟩
        · show x2.n ≤ big
          rcases hbig with h | h
          · unfold big; omega
          · have := hw x2.c (by
              simp only [DataW.weights, ht, List.mem_cons, List.mem_append]
              refine Or.inr (Or.inl (weights_all (List.mem_map.2 ⟨i, by simpa using hi', rfl⟩) _ ?_))
              rw [hxy.1]
              simp only [DataW.weights, hs, DataW.weightsEach, List.map_cons, List.map_nil, List.mem_append, t2]
              exact Or.inr (Or.inr (Or.inl h)))
            unfold reachBytes at this
            unfold big
            omega
        · rw [hxy.2]
          simp [hy]
    let f : Nat → Ac := fun r => if h : r < len then (each r h).choose else ⟨0, 0, ⟨none, 0, 0, []⟩⟩
    have hat : ∀ j, j < len → (Dkw.I64 (f j).kind ∧ Dkw.I64 (f j).num ∧ (f j).pt.ok W W.heap.size) ∧ W.cell? (a.add (j * 3)) = some (.int .i64 (f j).kind) ∧ W.cell? (a.add (j * 3 + 1)) = some (.int .i64 (f j).num) ∧ W.cell? (a.add (j * 3 + 2)) = some (f j).pt.v := by
      intro j hj
      have := (each j hj).choose_spec
      simp only [f, dif_pos hj]
      exact this
    refine ⟨some a, len, _, (List.range len).map f, rfl, by simp, hl, ⟨?_, ?_⟩, Or.inr ⟨_, _, rfl, by simp; omega⟩⟩
    · intro hpos
      simp only [List.length_map, List.length_range] at hpos
      obtain ⟨b, off, spot⟩ := a
      have hspot : spot = none := by simpa [Addr.add] using World.cell?_spot (hat 0 (by omega)).2.1
      subst hspot
      refine ⟨b, off, rfl, hlt (.cell b off) (List.mem_append_left _ (MemPlace.mem_row.2 ⟨0, by rw [cs]; omega, by simp⟩)), fun j u hu => ?_⟩
      rw [List.getElem?_map] at hu
      rcases Nat.lt_or_ge j len with hj | hj
      · rw [List.getElem?_range hj] at hu
        simp only [Option.map_some, Option.some.injEq] at hu
        subst hu
        have := (hat j hj).2
        rw [add_plain, add_plain, add_plain] at this
        exact ⟨this.1, this.2.1, this.2.2⟩
      · rw [List.getElem?_eq_none (by simpa using hj)] at hu
        cases hu
    · intro x hx
      obtain ⟨j, hj, rfl⟩ := List.mem_map.1 hx
      exact (hat j (List.mem_range.1 hj)).1
theorem sized_of {H : Type} {ts : List TypeId} {ds : List (DataW H)} (h : (DataW.weightsEach Try.prog ts ds).all (· ≤ reachBytes) = true) {j : Nat} {t : TypeId} {d : DataW H} (ht : ts[j]? = some t) (hd : ds[j]? = some d) : ∀ n ∈ d.weights Try.prog t, n ≤ reachBytes := by
  intro n hn
  have := List.all_eq_true.1 h n (DataW.weights_mem_each ht hd n hn)
  simpa using this
end Go.Proofs.Ytgcmejhgfdipkaa
