/- Words for memory of layer 8: which blocks are a disk's, slices that lie outside of them, the document's disk as a value. -/
import Derived.Test.YtgcmejhgfdipkaaRow8
import Derived.Test.YtgcmejhgfdipkaaReg
import Derived.Test.YtgcmejhgfdipkaaDkP
import Derived.BigQuiet
import Derived.Deep.QuietTactic
import Derived.WalkSpells
import Derived.Handy
import Derived.Deep.DeepCutAuto
namespace Go.Proofs.Ytgcmejhgfdipkaa.Dkw
open Go.RowKit
open Dk

theorem bal {B : Nat} {w0 w : World} (h : Below B w0 w) (hB : B ≤ w0.heap.size) (o : Obj) : Below B w0 (w.alloc o) := h.alloc (Nat.le_trans hB h.size) o
theorem hat (w : World) (o : Obj) (g : Nat) (hg : g = w.heap.size) : (w.alloc o).heap[g]? = some o := by
  subst hg
  exact heap_alloc_new w o
theorem hbe {w : World} {o x : Obj} {g : Nat} (h : w.heap[g]? = some x) : (w.alloc o).heap[g]? = some x := by
  rw [Below.heap_alloc w o g ?_]
  · exact h
  · rcases Nat.lt_or_ge g w.heap.size with h' | h'
    · exact h'
    · rw [Array.getElem?_eq_none h'] at h; cases h
/-- all outside of F that was there is as it was -/
structure Kp (F : Nat → Prop) (w w' : World) : Prop where
  os : w'.os = w.os
  tape : w'.tape = w.tape
  output : w'.output = w.output
  size : w.heap.size ≤ w'.heap.size
  block : ∀ k, k < w.heap.size → ¬ F k → w'.heap[k]? = w.heap[k]?
theorem Kp.below {F : Nat → Prop} {w w' : World} (h : Kp F w w') {B : Nat} (hB : B ≤ w.heap.size) (hF : ∀ k, F k → B ≤ k) : Below B w w' :=
  ⟨h.os, h.tape, h.output, h.size, fun k hk => h.block k (by omega) (fun hf => by have := hF k hf; omega)⟩
theorem Kp.of_below {F : Nat → Prop} {w w' : World} (h : Below w.heap.size w w') : Kp F w w' := ⟨h.os, h.tape, h.output, h.size, fun k hk _ => h.block k hk⟩
theorem Kp.refl (F : Nat → Prop) (w : World) : Kp F w w := ⟨rfl, rfl, rfl, Nat.le_refl _, fun _ _ _ => rfl⟩
theorem Kp.setCell {F : Nat → Prop} {w w' : World} (h : Kp F w w') {p : Addr} (hp : F p.block) (u : Value) : Kp F w (w'.setCell p u) := by
  have hb := (Below.refl 0 w').setCell (p := p) (Nat.zero_le _) u
  refine ⟨hb.os.trans h.os, hb.tape.trans h.tape, hb.output.trans h.output, Nat.le_trans h.size hb.size, fun k hk hf => ?_⟩
  rw [Below.heap_setCell w' p u k (fun e => hf (e ▸ hp))]
  exact h.block k hk hf
theorem Kp.alloc {F : Nat → Prop} {w w' : World} (h : Kp F w w') (o : Obj) : Kp F w (w'.alloc o) := by
  have hb := (Below.refl w'.heap.size w').alloc (Nat.le_refl _) o
  exact ⟨hb.os.trans h.os, hb.tape.trans h.tape, hb.output.trans h.output, Nat.le_trans h.size hb.size, fun k hk hf => (hb.block k (Nat.lt_of_lt_of_le hk h.size)).trans (h.block k hk hf)⟩
/-- the slice A leads to these cells, outside of F -/
def Rf (w : World) (F : Nat → Prop) (A : Option Addr) (xs : List Value) : Prop :=
  0 < xs.length → ∃ b o, A = some ⟨b, o, none⟩ ∧ b < w.heap.size ∧ ¬ F b ∧ ∀ j u, xs[j]? = some u → w.cell? ⟨b, o + j, none⟩ = some u
theorem Rf.nil {w : World} {F : Nat → Prop} {A : Option Addr} : Rf w F A [] := fun h => absurd h (by simp)
theorem Rf.rd {w : World} {F : Nat → Prop} {A : Option Addr} {xs : List Value} (h : Rf w F A xs) : Rd w w.heap.size A xs := by
  intro hn
  obtain ⟨b, o, e, hb, _, hc⟩ := h hn
  exact ⟨b, o, e, hb, hc⟩
theorem cell_block {w w' : World} {p : Addr} (h : w'.heap[p.block]? = w.heap[p.block]?) : w'.cell? p = w.cell? p := by
  unfold World.cell?
  rw [h]
theorem Rf.keep {w w' : World} {F F' : Nat → Prop} {A : Option Addr} {xs : List Value} (h : Rf w F A xs) (hk : Kp F w w') (hF : ∀ k, F' k → F k ∨ w.heap.size ≤ k) : Rf w' F' A xs := by
  intro hn
  obtain ⟨b, o, e, hb, hf, hc⟩ := h hn
  refine ⟨b, o, e, Nat.lt_of_lt_of_le hb hk.size, fun hf' => ?_, fun j u hu => ?_⟩
  · rcases hF b hf' with h1 | h1
    · exact hf h1
    · omega
  · rw [← hc j u hu]
    exact cell_block (hk.block b hb hf)
theorem Rf.all {w w' : World} {F : Nat → Prop} {A : Option Addr} {xs : List Value} (h : Rf w F A xs) (hb : Below w.heap.size w w') : Rf w' F A xs := h.keep (Kp.of_below hb) (fun _ hk => Or.inl hk)
theorem Rf.of_rd {w : World} {F : Nat → Prop} {A : Option Addr} {xs : List Value} {B : Nat} (h : Rd w B A xs) (hB : B ≤ w.heap.size) (hF : ∀ k, F k → B ≤ k) : Rf w F A xs := by
  intro hn
  obtain ⟨b, o, e, hb, hc⟩ := h hn
  exact ⟨b, o, e, by omega, fun hf => by have := hF b hf; omega, hc⟩
theorem Rf.of_own {w : World} {F : Nat → Prop} {base : Nat} {A : Option Addr} {n c : Nat} {bs : List UInt8} (h : Own w base A n c bs) (hF : ∀ k, F k → k < base) : Rf w F A (bs.map B8) := by
  intro hn
  obtain ⟨b, o, e, hb, hc⟩ := h.rd hn
  refine ⟨b, o, e, hb, fun hf => ?_, hc⟩
  have h1 := hF b hf
  subst e
  rcases h.2.2 with ⟨h0, _⟩ | ⟨g, cap, cur, hv, hg, _⟩
  · cases h0
  · injection hv with e1 e2 e3
    injection e1 with e1
    injection e1 with e1
    omega
/-- the document's disk as a value -/
def dv (A : Option Addr) (n c : Nat) (d : D) : Value := .agg #[.slice A n c, .int .i64 d.safe, .int .i64 d.room, .int .i64 d.fuse, .bool d.off]
def Ds (w : World) (F : Nat → Prop) (v : Value) (d : D) : Prop := ∃ A n c, v = dv A n c d ∧ n = d.data.length ∧ n ≤ c ∧ Rf w F A (d.data.map B8)
theorem Ds.keep {w w' : World} {F F' : Nat → Prop} {v : Value} {d : D} (h : Ds w F v d) (hk : Kp F w w') (hF : ∀ k, F' k → F k ∨ w.heap.size ≤ k) : Ds w' F' v d := by
  obtain ⟨A, n, c, e, hn, hc, hr⟩ := h
  exact ⟨A, n, c, e, hn, hc, hr.keep hk hF⟩
theorem Ds.all {w w' : World} {F : Nat → Prop} {v : Value} {d : D} (h : Ds w F v d) (hb : Below w.heap.size w w') : Ds w' F v d := h.keep (Kp.of_below hb) (fun _ hk => Or.inl hk)
/-- a disk in a block of its own -/
def Dx (w : World) (g : Nat) (A : Option Addr) (n c : Nat) (s r f : Int) (o : Bool) : Prop := w.heap[g]? = some (.cells #[.slice A n c, .int .i64 s, .int .i64 r, .int .i64 f, .bool o] 30)
section
variable {w : World} {g : Nat} {A : Option Addr} {n c : Nat} {s r f : Int} {o : Bool}
theorem Dx.c0 (h : Dx w g A n c s r f o) : w.cell? ⟨g, 0, none⟩ = some (.slice A n c) := by rw [cell_of_row _ _ _ _ _ _ h]; rfl
theorem Dx.c1 (h : Dx w g A n c s r f o) : w.cell? ⟨g, 1, none⟩ = some (.int .i64 s) := by rw [cell_of_row _ _ _ _ _ _ h]; rfl
theorem Dx.c2 (h : Dx w g A n c s r f o) : w.cell? ⟨g, 2, none⟩ = some (.int .i64 r) := by rw [cell_of_row _ _ _ _ _ _ h]; rfl
theorem Dx.c3 (h : Dx w g A n c s r f o) : w.cell? ⟨g, 3, none⟩ = some (.int .i64 f) := by rw [cell_of_row _ _ _ _ _ _ h]; rfl
theorem Dx.c4 (h : Dx w g A n c s r f o) : w.cell? ⟨g, 4, none⟩ = some (.bool o) := by rw [cell_of_row _ _ _ _ _ _ h]; rfl
theorem Dx.lt (h : Dx w g A n c s r f o) : g < w.heap.size := by
  rcases Nat.lt_or_ge g w.heap.size with h' | h'
  · exact h'
  · unfold Dx at h; rw [Array.getElem?_eq_none h'] at h; cases h
theorem Dx.all {w' : World} (h : Dx w g A n c s r f o) (hb : Below w.heap.size w w') : Dx w' g A n c s r f o := (hb.block g h.lt).trans h
theorem Dx.other (h : Dx w g A n c s r f o) {p : Addr} (hp : g ≠ p.block) (u : Value) : Dx (w.setCell p u) g A n c s r f o := (Below.heap_setCell w p u g hp).trans h
theorem Dx.put1 (h : Dx w g A n c s r f o) (i : Nat) (u : Value) : (w.setCell ⟨g, i, none⟩ u).heap[g]? = some (.cells (#[.slice A n c, .int .i64 s, .int .i64 r, .int .i64 f, .bool o].setIfInBounds i u) 30) := heap_setCell_same w g i _ _ _ h
theorem Dx.setA (h : Dx w g A n c s r f o) (A' : Option Addr) (n' c' : Nat) : Dx (w.setCell ⟨g, 0, none⟩ (.slice A' n' c')) g A' n' c' s r f o := by unfold Dx; rw [h.put1]; rfl
theorem Dx.setS (h : Dx w g A n c s r f o) (x : Int) : Dx (w.setCell ⟨g, 1, none⟩ (.int .i64 x)) g A n c x r f o := by unfold Dx; rw [h.put1]; rfl
theorem Dx.setR (h : Dx w g A n c s r f o) (x : Int) : Dx (w.setCell ⟨g, 2, none⟩ (.int .i64 x)) g A n c s x f o := by unfold Dx; rw [h.put1]; rfl
theorem Dx.setF (h : Dx w g A n c s r f o) (x : Int) : Dx (w.setCell ⟨g, 3, none⟩ (.int .i64 x)) g A n c s r x o := by unfold Dx; rw [h.put1]; rfl
theorem Dx.setO (h : Dx w g A n c s r f o) (x : Bool) : Dx (w.setCell ⟨g, 4, none⟩ (.bool x)) g A n c s r f x := by unfold Dx; rw [h.put1]; rfl
end
end Go.Proofs.Ytgcmejhgfdipkaa.Dkw
