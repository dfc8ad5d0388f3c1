/- Words for memory of layer 6: tags in blocks of their own, slices of tags. -/
import Derived.Test.YtjcpdhekilkhgaaMem
import Derived.Test.YtjcpdhekilkhgaaReg
import Derived.Test.YtjcpdhekilkhgaaTgP
import Derived.BigQuiet
import Derived.Deep.QuietTactic
import Derived.WalkSpells
import Derived.Handy
import Derived.Deep.DeepCutAuto
import Derived.Laws.StructEq
namespace Go.Proofs.Ytjcpdhekilkhgaa.Tgw
open Go.RowKit
open Tg

theorem bal {B : Nat} {w0 w : World} (h : Below B w0 w) (hB : B ≤ w0.heap.size) (o : Obj) : Below B w0 (w.alloc o) := h.alloc (Nat.le_trans hB h.size) o
/-- a tag as a value -/
def tv (n d : Int) : Value := .agg #[.int .i64 n, .int .i64 d]
theorem ret_bool {a b : Bool} (h : a = b) : Ending.returned (.bool a) = .returned (.bool b) := by rw [h]
/-- a tag in a block of its own -/
def Tx (w : World) (g : Nat) (n d : Int) : Prop := w.heap[g]? = some (.cells #[.int .i64 n, .int .i64 d] 23)
theorem Tx.c0 {w : World} {g : Nat} {a d : Int} (h : Tx w g a d) : w.cell? ⟨g, 0, none⟩ = some (.int .i64 a) := by
  rw [cell_of_row _ _ _ _ _ _ h]; rfl
theorem Tx.c1 {w : World} {g : Nat} {a d : Int} (h : Tx w g a d) : w.cell? ⟨g, 1, none⟩ = some (.int .i64 d) := by
  rw [cell_of_row _ _ _ _ _ _ h]; rfl
theorem Tx.lt {w : World} {g : Nat} {a d : Int} (h : Tx w g a d) : g < w.heap.size := by
  rcases Nat.lt_or_ge g w.heap.size with h' | h'
  · exact h'
  · unfold Tx at h; rw [Array.getElem?_eq_none h'] at h; cases h
theorem Tx.below {w w' : World} {g B : Nat} {a d : Int} (h : Tx w g a d) (hb : Below B w w') (hg : g < B) : Tx w' g a d := (hb.block g hg).trans h
theorem Tx.all {w w' : World} {g : Nat} {a d : Int} (h : Tx w g a d) (hb : Below w.heap.size w w') : Tx w' g a d := h.below hb h.lt
theorem Tx.other {w : World} {g : Nat} {a d : Int} (h : Tx w g a d) {p : Addr} (hp : g ≠ p.block) (u : Value) : Tx (w.setCell p u) g a d := (Below.heap_setCell w p u g hp).trans h
theorem Tx.put {w : World} {g : Nat} {a d : Int} (h : Tx w g a d) (a' d' : Int) : Tx ((w.setCell ⟨g, 0, none⟩ (.int .i64 a')).setCell ⟨g, 1, none⟩ (.int .i64 d')) g a' d' := by
  unfold Tx
  rw [heap_setCell_same _ g 1 _ _ _ (heap_setCell_same w g 0 _ _ _ h)]
  rfl
theorem hat (w : World) (o : Obj) (g : Nat) (hg : g = w.heap.size) : (w.alloc o).heap[g]? = some o := by
  subst hg
  exact heap_alloc_new w o
theorem hbe {w : World} {o x : Obj} {g : Nat} (h : w.heap[g]? = some x) : (w.alloc o).heap[g]? = some x := by
  rw [Below.heap_alloc w o g ?_]
  · exact h
  · rcases Nat.lt_or_ge g w.heap.size with h' | h'
    · exact h'
    · rw [Array.getElem?_eq_none h'] at h; cases h
theorem results_tag {fn : Func} {t : Tmp} (h : fn.results = #[.cell t 23]) {tmps : Array Value} {w : World} {g : Nat} {a d : Int} (hp : tmps.getD t undef = .pointer (some ⟨g, 0, none⟩)) (hv : Tx w g a d) : (results fn tmps).run Try.prog w = .ok (tv a d) w := by
  have h0 := hv.c0
  have h1 := hv.c1
  have u3 := Try.sizeOf23
  have hp' : tmps[t]?.getD undef = .pointer (some ⟨g, 0, none⟩) := by rw [← hp, Array.getD_eq_getD_getElem?]
  unfold results tv
  simp only [h]
  simp [hp', go_sem, h0, h1]
theorem results_tag2 {fn : Func} {t u : Tmp} (h : fn.results = #[.cell t 23, .tmp u]) {tmps : Array Value} {w : World} {g : Nat} {a d : Int} {x : Value} (hp : tmps.getD t undef = .pointer (some ⟨g, 0, none⟩)) (hx : tmps.getD u undef = x) (hv : Tx w g a d) : (results fn tmps).run Try.prog w = .ok (.tuple #[tv a d, x]) w := by
  have h0 := hv.c0
  have h1 := hv.c1
  have u3 := Try.sizeOf23
  have hp' : tmps[t]?.getD undef = .pointer (some ⟨g, 0, none⟩) := by rw [← hp, Array.getD_eq_getD_getElem?]
  have hx' : tmps[u]?.getD undef = x := by rw [← hx, Array.getD_eq_getD_getElem?]
  unfold results tv
  simp only [h]
  simp [hp', hx', go_sem, h0, h1]
theorem eq_tag (a b c d : Int) (w : World) : (Op.equalIn 10000 23 (.agg #[.int .i64 a, .int .i64 b]) (.agg #[.int .i64 c, .int .i64 d])).run Try.prog w = .ok (a == c && b == d) w := by
  have u3 := Try.underlying3
  have a3 := Try.isAgg3
  have z3 := Try.sizeOf3
  have hS : Try.prog.underlying 23 = some (.struct (Try.prog.fieldsOf 23)) := by kernel_rfl
  rw [show (10000 : Nat) = 9999 + 1 from rfl, run_equalIn_agg w 9999 23 _ _ hS (by kernel_rfl)]
  simp only [Program.fieldsOf, Try.underlying23]
  go_simp
  by_cases h1 : a = c <;> by_cases h2 : b = d <;> simp [h1, h2]
/-- the slice A holds these tags, below block B -/
def Rt (w : World) (B : Nat) (A : Option Addr) (ts : List (Int × Int)) : Prop :=
  0 < ts.length → ∃ b o, A = some ⟨b, o, none⟩ ∧ b < B ∧ ∀ (j : Nat) (t : Int × Int), ts[j]? = some t → w.cell? ⟨b, o + j * 2, none⟩ = some (.int .i64 t.1) ∧ w.cell? ⟨b, o + j * 2 + 1, none⟩ = some (.int .i64 t.2)
theorem Rt.nil {w : World} {B : Nat} {A : Option Addr} : Rt w B A [] := fun h => absurd h (by simp)
theorem Rt.below {w w' : World} {B : Nat} {A : Option Addr} {ts : List (Int × Int)} (h : Rt w B A ts) (hb : Below B w w') : Rt w' B A ts := by
  intro hn
  obtain ⟨b, o, e, hB, hc⟩ := h hn
  exact ⟨b, o, e, hB, fun j v hv => ⟨(hb.cell (p := ⟨b, o + j * 2, none⟩) hB).trans (hc j v hv).1, (hb.cell (p := ⟨b, o + j * 2 + 1, none⟩) hB).trans (hc j v hv).2⟩⟩
theorem Rt.more {w : World} {B B' : Nat} {A : Option Addr} {ts : List (Int × Int)} (h : Rt w B A ts) (hB : B ≤ B') : Rt w B' A ts := by
  intro hn
  obtain ⟨b, o, e, hb, hc⟩ := h hn
  exact ⟨b, o, e, by omega, hc⟩
theorem Rt.take {w : World} {B : Nat} {A : Option Addr} {ts : List (Int × Int)} (h : Rt w B A ts) (k : Nat) : Rt w B A (ts.take k) := by
  intro hn
  rw [List.length_take] at hn
  obtain ⟨b, o, e, hb, hc⟩ := h (by omega)
  refine ⟨b, o, e, hb, fun j t ht => hc j t ?_⟩
  rw [List.getElem?_take] at ht
  split at ht
  · exact ht
  · cases ht
def flat (ts : List (Int × Int)) : List Value := ts.flatMap fun t => [.int .i64 t.1, .int .i64 t.2]
theorem flat_at : ∀ (ts : List (Int × Int)) (j : Nat) (t : Int × Int), ts[j]? = some t → (flat ts)[j * 2]? = some (.int .i64 t.1) ∧ (flat ts)[j * 2 + 1]? = some (.int .i64 t.2)
  | [], _, _, h => by simp at h
  | x :: l, 0, v, h => by
    simp only [List.getElem?_cons_zero, Option.some.injEq] at h
    subst h
    exact ⟨rfl, rfl⟩
  | x :: l, j + 1, v, h => by
    have ih := flat_at l j v (by simpa using h)
    have e : flat (x :: l) = .int .i64 x.1 :: .int .i64 x.2 :: flat l := rfl
    rw [e, show (j + 1) * 2 = j * 2 + 1 + 1 by omega, show j * 2 + 1 + 1 + 1 = (j * 2 + 1) + 1 + 1 by omega]
    simpa using ih
theorem rt_new (w : World) (ts : List (Int × Int)) : Rt (w.alloc (.cells (flat ts).toArray 23)) (w.heap.size + 1) (some ⟨w.heap.size, 0, none⟩) ts := by
  intro _
  refine ⟨_, _, rfl, by omega, fun j v hv => ?_⟩
  have h := flat_at ts j v hv
  rw [cell_of_row _ _ _ _ _ _ (heap_alloc_new w _), cell_of_row _ _ _ _ _ _ (heap_alloc_new w _)]
  simpa using h
/-- a tag and the error's number, whichever way it ends -/
def gt (o : Option (Int × Int)) : Int × Int := o.getD (0, 0)
def ge (o : Option (Int × Int)) : Int := if o.isSome then 0 else 61
def RetT (w : World) (o : Option (Int × Int)) (e : Ending) (w' : World) : Prop := e = .returned (.tuple #[tv (gt o).1 (gt o).2, .int .i64 (ge o)]) ∧ Below w.heap.size w w'
end Go.Proofs.Ytjcpdhekilkhgaa.Tgw
