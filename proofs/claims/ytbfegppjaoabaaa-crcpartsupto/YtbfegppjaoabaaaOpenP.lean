/- A slice of slices of bytes that came in, opened. -/
import Derived.Test.YtbfegppjaoabaaaOpen
import Derived.Test.YtbfegppjaoabaaaCrcC
import Derived.Deep.Matrix
namespace Go.Proofs.Ytbfegppjaoabaaa
open Go.ChangeShapes Go.WideShapes Go.ChangeAt Go.RowKit

theorem bulk_map {H α : Type} (f : α → DataW H) (g : α → Nat) : ∀ (l : List α), (∀ r ∈ l, g r ≤ Rows.uptoBulk (f r)) → (l.map g).sum ≤ Rows.uptoBulkAll (l.map f)
  | [], _ => by simp
  | x :: l, h => by
    have h1 := h x (by simp)
    have h2 := bulk_map f g l (fun r hr => h r (by simp [hr]))
    simp only [List.map_cons, List.sum_cons, Rows.uptoBulkAll]
    omega

theorem all_length (ps : List Part) : (Part.all ps).length = (ps.map fun p => p.bs.length).sum := by
  unfold Part.all
  rw [List.length_flatMap]

theorem open_parts {H : Type} {enc : TypeId × Value → H} {W : World} {b0 : Nat} {t e q : TypeId} {v : Value} {d : DataW H} {p : List MemPlace} (ht : Try.prog.underlying t = some (.slice e)) (he : Try.prog.underlying e = some (.slice q)) (hq : Try.prog.underlying q = some (.int .u8))
    (ce : Try.prog.cellsOf e = 1) (cq : Try.prog.cellsOf q = 1)
    (hval : Value.okWide Try.prog W .any b0 t v) (h : DataW.Trod enc Try.prog W 0 (fun _ => true) true t v d p) (hlt : ∀ x ∈ p, x.block < W.heap.size) :
    ∃ A n c, ∃ ps : List Part, v = .slice A n c ∧ n = ps.length ∧ Rd W W.heap.size A (ps.map Part.v) ∧ (∀ x ∈ ps, x.n = x.bs.length ∧ Rd W W.heap.size x.a (x.bs.map B8)) ∧ ps.length + (Part.all ps).length ≤ Rows.uptoBulk d := by
  obtain ⟨a0, len, cap, rfl⟩ := okWide_slice ht hval
  obtain ⟨fuel, hf⟩ := h
  rcases Deep.open_int_rows ht he hq ce cq hf with ⟨hcs, hx⟩ | ⟨a, len', cap', A, L, C, Z, hcs, _, hl, hm, hx, hrow⟩
  · simp [Value.cells] at hcs
    obtain ⟨rfl, rfl, rfl⟩ := hcs
    simp only [Prod.mk.injEq] at hx
    obtain ⟨rfl, rfl⟩ := hx
    exact ⟨none, 0, 0, [], rfl, rfl, Rd.nil, by simp, by simp [Part.all]⟩
  · simp [Value.cells] at hcs
    obtain ⟨rfl, rfl, rfl⟩ := hcs
    simp only [Prod.mk.injEq] at hx
    obtain ⟨rfl, rfl⟩ := hx
    let f : Nat → Part := fun r => ⟨A r, L r, C r, ((Z r).take (L r)).map fun z => UInt8.ofNat z.toNat⟩
    have hfl : ∀ r, r < len → (f r).bs.length = L r := by
      intro r hr
      have hh := hrow r (by omega)
      show (((Z r).take (L r)).map fun z => UInt8.ofNat z.toNat).length = L r
      rw [List.length_map, List.length_take, hh.2.2.2.1]
      have := hh.2.1
      omega
    refine ⟨some a, len, cap, (List.range len).map f, rfl, by simp, ?_, ?_, ?_⟩
    · intro hpos
      simp only [List.length_map, List.length_range] at hpos
      obtain ⟨b, off, spot⟩ := a
      have hspot : spot = none := by simpa [Addr.add] using World.cell?_spot (hrow 0 (by omega)).1
      subst hspot
      refine ⟨b, off, rfl, hlt (.cell b off) (List.mem_append_left _ (MemPlace.mem_row.2 ⟨0, by omega, by simp⟩)), fun j u hu => ?_⟩
      rw [List.map_map, List.getElem?_map] at hu
      rcases Nat.lt_or_ge j len with hj | hj
      · rw [List.getElem?_range hj] at hu
        simp only [Option.map_some, Option.some.injEq] at hu
        subst hu
        have := (hrow j (by omega)).1
        rw [add_plain] at this
        exact this
      · rw [List.getElem?_eq_none (by simpa using hj)] at hu
        cases hu
    · intro x hx
      obtain ⟨r, hr, rfl⟩ := List.mem_map.1 hx
      have hr' : r < len := by simpa using hr
      have hh := hrow r (by omega)
      refine ⟨(hfl r hr').symm, ?_⟩
      intro hpos
      rw [List.length_map, hfl r hr'] at hpos
      obtain ⟨hcell, hLC, _, hZ, hwf, hnone, hsome⟩ := hh
      cases hA : A r with
      | none => have := hnone hA; omega
      | some a' =>
        obtain ⟨_, hcl⟩ := hsome a' hA
        obtain ⟨b, off, spot⟩ := a'
        have hspot : spot = none := by simpa [Addr.add] using World.cell?_spot (hcl 0 (by omega))
        subst hspot
        refine ⟨b, off, hA, hlt (.cell b off) (List.mem_append_right _ (List.mem_flatMap.2 ⟨r, by simp; omega, ?_⟩)), fun j u hu => ?_⟩
        · rw [hA]
          exact MemPlace.mem_row.2 ⟨0, by omega, by simp⟩
        · have hu' : (((Z r).take (L r)).map (B8 ∘ fun z => UInt8.ofNat z.toNat))[j]? = some u := by rw [← List.map_map]; exact hu
          rw [List.getElem?_map, List.getElem?_take] at hu'
          split at hu'
          · have hj : j < (Z r).length := by omega
            rw [List.getElem?_eq_getElem hj] at hu'
            simp only [Option.map_some, Option.some.injEq] at hu'
            subst hu'
            have := hcl j (by omega)
            rw [add_plain] at this
            rw [this]
            have hz : 0 ≤ (Z r)[j] ∧ (Z r)[j] ≤ 255 := by simpa [Lit.wf, IntKind.min, IntKind.max, IntKind.signed, IntKind.bits] using hwf _ (List.getElem_mem hj)
            simp only [Function.comp, B8, UInt8.toNat_ofNat', List.getD, List.getElem?_eq_getElem hj, Option.getD_some]
            congr 2
            omega
          · cases hu'
    · rw [all_length, List.map_map]
      have h1 := bulk_map (fun r => Deep.intRow (H := H) .u8 (A r) (L r) (Z r)) (fun r => L r + 1) (List.range len) (fun r hr => by
        have hr' : r < len := by simpa using hr
        obtain ⟨_, hLC, _, hZ, _, hnone, _⟩ := hrow r (by omega)
        cases hA : A r with
        | none =>
          have := hnone hA
          simp only [Deep.intRow, Rows.uptoBulk]
          omega
        | some a' =>
          have h2 := bulk_len (lits (H := H) .u8 ((Z r).take (L r)))
          simp only [Deep.intRow, Rows.uptoBulk]
          have h3 : (lits (H := H) .u8 ((Z r).take (L r))).length = L r := by
            simp only [lits, List.length_map, List.length_take]
            omega
          omega)
      have h2 : ((List.range len).map fun r => L r + 1).sum = len + ((List.range len).map fun r => (f r).bs.length).sum := by
        have h3 : ∀ (l : List Nat), (∀ r ∈ l, r < len) → (l.map fun r => L r + 1).sum = l.length + (l.map fun r => (f r).bs.length).sum := by
          intro l
          induction l with
          | nil => intro _; rfl
          | cons x l ih =>
            intro hl'
            have h4 := ih (fun r hr => hl' r (by simp [hr]))
            have h5 := hfl x (hl' x (by simp))
            simp only [List.map_cons, List.sum_cons, List.length_cons]
            rw [h5, h4]
            omega
        have := h3 (List.range len) (fun r hr => by simpa using hr)
        simpa using this
      simp only [Rows.uptoBulk, List.length_map, List.length_range]
      have h6 : ((List.range len).map ((fun p => p.bs.length) ∘ f)).sum = ((List.range len).map fun r => (f r).bs.length).sum := rfl
      omega
end Go.Proofs.Ytbfegppjaoabaaa
