/- Words for memory of layer 7: entries in blocks of their own, slices of entries. -/
import Derived.Test.YtjcpdhekilkhgaaTgW
import Derived.Test.YtjcpdhekilkhgaaBkP
namespace Go.Proofs.Ytjcpdhekilkhgaa.Bkw
open Go.RowKit
open Tg Bk
open Tgw (bal hat hbe ret_bool tv)

/-- a float is stored as any one cell is: the walk takes it as a hypothesis ('have hsf := store_flt') -/
theorem store_flt (a : Addr) (m : Mode) (w : World) (n : Nat) : (store a (.float .f64 n) m).run Try.prog w = stored Try.prog w a (.float .f64 n) m := run_store _ w a _ m rfl
/-- the tag of an entry that is a value: the walk takes it as a hypothesis -/
theorem field_tag (k n d : Int) (v : Nat) (w : World) : (Instr.field 26 (.agg #[.int .i64 k, .int .i64 n, .int .i64 d, .float .f64 v]) 1).run Try.prog w = .ok (.agg #[.int .i64 n, .int .i64 d]) w := by
  have u1 := run_underlying Try.underlying26
  have a1 := Try.isAgg23
  have z1 := Try.sizeOf23
  unfold Instr.field
  simp [go_sem, u1, part, asAgg, a1, z1]
/-- an entry as a value -/
def ev (e : E) : Value := .agg #[.int .i64 e.key, .int .i64 e.num, .int .i64 e.node, .float .f64 e.val]
def cellsE (e : E) : List Value := [.int .i64 e.key, .int .i64 e.num, .int .i64 e.node, .float .f64 e.val]
/-- an entry in a block of its own -/
def Ex (w : World) (g : Nat) (e : E) : Prop := w.heap[g]? = some (.cells #[.int .i64 e.key, .int .i64 e.num, .int .i64 e.node, .float .f64 e.val] 26)
theorem Ex.c0 {w : World} {g : Nat} {e : E} (h : Ex w g e) : w.cell? ⟨g, 0, none⟩ = some (.int .i64 e.key) := by rw [cell_of_row _ _ _ _ _ _ h]; rfl
theorem Ex.c1 {w : World} {g : Nat} {e : E} (h : Ex w g e) : w.cell? ⟨g, 1, none⟩ = some (.int .i64 e.num) := by rw [cell_of_row _ _ _ _ _ _ h]; rfl
theorem Ex.c2 {w : World} {g : Nat} {e : E} (h : Ex w g e) : w.cell? ⟨g, 2, none⟩ = some (.int .i64 e.node) := by rw [cell_of_row _ _ _ _ _ _ h]; rfl
theorem Ex.c3 {w : World} {g : Nat} {e : E} (h : Ex w g e) : w.cell? ⟨g, 3, none⟩ = some (.float .f64 e.val) := by rw [cell_of_row _ _ _ _ _ _ h]; rfl
theorem Ex.lt {w : World} {g : Nat} {e : E} (h : Ex w g e) : g < w.heap.size := by
  rcases Nat.lt_or_ge g w.heap.size with h' | h'
  · exact h'
  · unfold Ex at h; rw [Array.getElem?_eq_none h'] at h; cases h
theorem Ex.below {w w' : World} {g B : Nat} {e : E} (h : Ex w g e) (hb : Below B w w') (hg : g < B) : Ex w' g e := (hb.block g hg).trans h
theorem Ex.all {w w' : World} {g : Nat} {e : E} (h : Ex w g e) (hb : Below w.heap.size w w') : Ex w' g e := h.below hb h.lt
theorem Ex.other {w : World} {g : Nat} {e : E} (h : Ex w g e) {p : Addr} (hp : g ≠ p.block) (u : Value) : Ex (w.setCell p u) g e := (Below.heap_setCell w p u g hp).trans h
theorem Ex.put {w : World} {g : Nat} {e : E} (h : Ex w g e) (f : E) : Ex ((((w.setCell ⟨g, 0, none⟩ (.int .i64 f.key)).setCell ⟨g, 1, none⟩ (.int .i64 f.num)).setCell ⟨g, 2, none⟩ (.int .i64 f.node)).setCell ⟨g, 3, none⟩ (.float .f64 f.val)) g f := by
  unfold Ex
  rw [heap_setCell_same _ g 3 _ _ _ (heap_setCell_same _ g 2 _ _ _ (heap_setCell_same _ g 1 _ _ _ (heap_setCell_same w g 0 _ _ _ h)))]
  rfl
theorem results_entry {fn : Func} {t : Tmp} (h : fn.results = #[.cell t 26]) {tmps : Array Value} {w : World} {g : Nat} {e : E} (hp : tmps.getD t undef = .pointer (some ⟨g, 0, none⟩)) (hv : Ex w g e) : (results fn tmps).run Try.prog w = .ok (ev e) w := by
  have h0 := hv.c0
  have h1 := hv.c1
  have h2 := hv.c2
  have h3 := hv.c3
  have u3 := Try.sizeOf26
  have hp' : tmps[t]?.getD undef = .pointer (some ⟨g, 0, none⟩) := by rw [← hp, Array.getD_eq_getD_getElem?]
  unfold results ev
  simp only [h]
  simp [hp', go_sem, h0, h1, h2, h3]
theorem results_entry2 {fn : Func} {t u : Tmp} (h : fn.results = #[.cell t 26, .tmp u]) {tmps : Array Value} {w : World} {g : Nat} {e : E} {x : Value} (hp : tmps.getD t undef = .pointer (some ⟨g, 0, none⟩)) (hx : tmps.getD u undef = x) (hv : Ex w g e) : (results fn tmps).run Try.prog w = .ok (.tuple #[ev e, x]) w := by
  have h0 := hv.c0
  have h1 := hv.c1
  have h2 := hv.c2
  have h3 := hv.c3
  have u3 := Try.sizeOf26
  have hp' : tmps[t]?.getD undef = .pointer (some ⟨g, 0, none⟩) := by rw [← hp, Array.getD_eq_getD_getElem?]
  have hx' : tmps[u]?.getD undef = x := by rw [← hx, Array.getD_eq_getD_getElem?]
  unfold results ev
  simp only [h]
  simp [hp', hx', go_sem, h0, h1, h2, h3]
/-- the cells of the entry at an address -/
def Four (w : World) (b o : Nat) (e : E) : Prop := w.cell? ⟨b, o, none⟩ = some (.int .i64 e.key) ∧ w.cell? ⟨b, o + 1, none⟩ = some (.int .i64 e.num) ∧ w.cell? ⟨b, o + 2, none⟩ = some (.int .i64 e.node) ∧ w.cell? ⟨b, o + 3, none⟩ = some (.float .f64 e.val)
theorem Four.below {w w' : World} {b o B : Nat} {e : E} (h : Four w b o e) (hb : Below B w w') (hB : b < B) : Four w' b o e :=
  ⟨(hb.cell (p := ⟨b, o, none⟩) hB).trans h.1, (hb.cell (p := ⟨b, o + 1, none⟩) hB).trans h.2.1, (hb.cell (p := ⟨b, o + 2, none⟩) hB).trans h.2.2.1, (hb.cell (p := ⟨b, o + 3, none⟩) hB).trans h.2.2.2⟩
/-- the slice A holds these entries, below block B -/
def Re (w : World) (B : Nat) (A : Option Addr) (es : List E) : Prop :=
  0 < es.length → ∃ b o, A = some ⟨b, o, none⟩ ∧ b < B ∧ ∀ (j : Nat) (e : E), es[j]? = some e → Four w b (o + j * 4) e
theorem Re.nil {w : World} {B : Nat} {A : Option Addr} : Re w B A [] := fun h => absurd h (by simp)
theorem Re.below {w w' : World} {B : Nat} {A : Option Addr} {es : List E} (h : Re w B A es) (hb : Below B w w') : Re w' B A es := by
  intro hn
  obtain ⟨b, o, e, hB, hc⟩ := h hn
  exact ⟨b, o, e, hB, fun j v hv => (hc j v hv).below hb hB⟩
theorem Re.more {w : World} {B B' : Nat} {A : Option Addr} {es : List E} (h : Re w B A es) (hB : B ≤ B') : Re w B' A es := by
  intro hn
  obtain ⟨b, o, e, hb, hc⟩ := h hn
  exact ⟨b, o, e, by omega, hc⟩
def flat (es : List E) : List Value := es.flatMap cellsE
theorem flat_len (es : List E) : (flat es).length = es.length * 4 := by
  induction es with
  | nil => rfl
  | cons x l ih =>
    show (_ :: _ :: _ :: _ :: flat l).length = _
    simp only [List.length_cons, ih]
    omega
theorem flat_one (es : List E) : ∀ u ∈ flat es, u.oneCell' = true := by
  intro u hu
  obtain ⟨v, _, hv⟩ := List.mem_flatMap.1 hu
  simp only [cellsE, List.mem_cons, List.not_mem_nil, or_false] at hv
  rcases hv with rfl | rfl | rfl | rfl <;> rfl
theorem flat_at : ∀ (es : List E) (j : Nat) (e : E), es[j]? = some e → ∀ i, i < 4 → (flat es)[j * 4 + i]? = (cellsE e)[i]?
  | [], _, _, h, _, _ => by simp at h
  | x :: l, 0, v, h, i, hi => by
    simp only [List.getElem?_cons_zero, Option.some.injEq] at h
    subst h
    have e : flat (x :: l) = cellsE x ++ flat l := rfl
    rw [e, Nat.zero_mul, Nat.zero_add, List.getElem?_append_left (by simpa [cellsE] using hi)]
  | x :: l, j + 1, v, h, i, hi => by
    have ih := flat_at l j v (by simpa using h) i hi
    have e : flat (x :: l) = cellsE x ++ flat l := rfl
    rw [e, List.getElem?_append_right (by simp [cellsE]; omega), show (j + 1) * 4 + i - (cellsE x).length = j * 4 + i by simp [cellsE]; omega]
    exact ih
theorem flat_get (es : List E) (j : Nat) (u : Value) (h : (flat es)[j]? = some u) : ∃ (k i : Nat) (e : E), es[k]? = some e ∧ i < 4 ∧ j = k * 4 + i ∧ (cellsE e)[i]? = some u := by
  have hj : j < es.length * 4 := by
    rw [← flat_len]
    rcases Nat.lt_or_ge j (flat es).length with h' | h'
    · exact h'
    · rw [List.getElem?_eq_none h'] at h; cases h
  have hi : j / 4 < es.length := by omega
  have hv : es[j / 4]? = some es[j / 4] := List.getElem?_eq_getElem hi
  have hf := flat_at es (j / 4) _ hv (j % 4) (by omega)
  rw [show j / 4 * 4 + j % 4 = j by omega, h] at hf
  exact ⟨j / 4, j % 4, _, hv, by omega, by omega, hf.symm⟩
theorem Four.cells {w : World} {b o : Nat} {e : E} (h : Four w b o e) (i : Nat) (hi : i < 4) (u : Value) (hu : (cellsE e)[i]? = some u) : w.cell? ⟨b, o + i, none⟩ = some u := by
  obtain ⟨h0, h1, h2, h3⟩ := h
  match i, hi with
  | 0, _ => rw [Nat.add_zero, h0]; exact hu
  | 1, _ => rw [h1]; exact hu
  | 2, _ => rw [h2]; exact hu
  | 3, _ => rw [h3]; exact hu
theorem four_of {w : World} {b o : Nat} {e : E} (h : ∀ i u, i < 4 → (cellsE e)[i]? = some u → w.cell? ⟨b, o + i, none⟩ = some u) : Four w b o e :=
  ⟨h 0 _ (by omega) rfl, h 1 _ (by omega) rfl, h 2 _ (by omega) rfl, h 3 _ (by omega) rfl⟩
theorem re_new (w : World) (es : List E) : Re (w.alloc (.cells (flat es).toArray 26)) (w.heap.size + 1) (some ⟨w.heap.size, 0, none⟩) es := by
  intro _
  refine ⟨_, _, rfl, by omega, fun j v hv => four_of fun i u hi hu => ?_⟩
  have h := flat_at es j v hv i hi
  rw [cell_of_row _ _ _ _ _ _ (heap_alloc_new w _), Nat.zero_add]
  rw [hu] at h
  simpa using h
/-- an entry and the error's number, whichever way it ends -/
def RetE (w : World) (x : E) (n : Int) (e : Ending) (w' : World) : Prop := e = .returned (.tuple #[ev x, .int .i64 n]) ∧ Below w.heap.size w w'
end Go.Proofs.Ytjcpdhekilkhgaa.Bkw
