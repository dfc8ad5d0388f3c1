/- Contracts and words on which the claims of this seat stand, part 6: DkW DkR DkS DkT DkX DkB DkC. -/
import Derived.Test.YtfblnomkafimhaaGreatG01
import Derived.BigQuiet
import Derived.Deep.QuietTactic
import Derived.WalkSpells
import Derived.Handy
import Derived.Deep.DeepCutAuto
import Derived.Laws.Concat
import Derived.Laws.CopyOwn
import Derived.Deep.RegionLaw
set_option linter.unusedSimpArgs false
set_option linter.unusedVariables false
namespace Go.Proofs.YtfblnomkafimhaaGreat.Dkw
set_option maxRecDepth 20000
open Go.RowKit
open Dk

theorem bal {B : Nat} {w0 w : World} (h : Below B w0 w) (hB : B ≤ w0.heap.size) (o : Obj) : Below B w0 (w.alloc o) := h.alloc (Nat.le_trans hB h.size) o
theorem hat (w : World) (o : Obj) (g : Nat) (hg : g = w.heap.size) : (w.alloc o).heap[g]? = some o := by
  subst hg
  exact heap_alloc_new w o
theorem hbe {w : World} {o x : Obj} {g : Nat} (h : w.heap[g]? = some x) : (w.alloc o).heap[g]? = some x := by
  rw [Below.heap_alloc w o g ?_]
  · exact h
  · rcases Nat.lt_or_ge g w.heap.size with h' | h'
    · exact h'
    · rw [Array.getElem?_eq_none h'] at h; cases h
/-- all outside of F that was there is as it was -/
structure Kp (F : Nat → Prop) (w w' : World) : Prop where
  os : w'.os = w.os
  tape : w'.tape = w.tape
  output : w'.output = w.output
  size : w.heap.size ≤ w'.heap.size
  block : ∀ k, k < w.heap.size → ¬ F k → w'.heap[k]? = w.heap[k]?
theorem Kp.below {F : Nat → Prop} {w w' : World} (h : Kp F w w') {B : Nat} (hB : B ≤ w.heap.size) (hF : ∀ k, F k → B ≤ k) : Below B w w' :=
  ⟨h.os, h.tape, h.output, h.size, fun k hk => h.block k (by omega) (fun hf => by have := hF k hf; omega)⟩
theorem Kp.of_below {F : Nat → Prop} {w w' : World} (h : Below w.heap.size w w') : Kp F w w' := ⟨h.os, h.tape, h.output, h.size, fun k hk _ => h.block k hk⟩
theorem Kp.refl (F : Nat → Prop) (w : World) : Kp F w w := ⟨rfl, rfl, rfl, Nat.le_refl _, fun _ _ _ => rfl⟩
theorem Kp.setCell {F : Nat → Prop} {w w' : World} (h : Kp F w w') {p : Addr} (hp : F p.block) (u : Value) : Kp F w (w'.setCell p u) := by
  have hb := (Below.refl 0 w').setCell (p := p) (Nat.zero_le _) u
  refine ⟨hb.os.trans h.os, hb.tape.trans h.tape, hb.output.trans h.output, Nat.le_trans h.size hb.size, fun k hk hf => ?_⟩
  rw [Below.heap_setCell w' p u k (fun e => hf (e ▸ hp))]
  exact h.block k hk hf
theorem Kp.alloc {F : Nat → Prop} {w w' : World} (h : Kp F w w') (o : Obj) : Kp F w (w'.alloc o) := by
  have hb := (Below.refl w'.heap.size w').alloc (Nat.le_refl _) o
  exact ⟨hb.os.trans h.os, hb.tape.trans h.tape, hb.output.trans h.output, Nat.le_trans h.size hb.size, fun k hk hf => (hb.block k (Nat.lt_of_lt_of_le hk h.size)).trans (h.block k hk hf)⟩
/-- the slice A leads to these cells, outside of F -/
def Rf (w : World) (F : Nat → Prop) (A : Option Addr) (xs : List Value) : Prop :=
  0 < xs.length → ∃ b o, A = some ⟨b, o, none⟩ ∧ b < w.heap.size ∧ ¬ F b ∧ ∀ j u, xs[j]? = some u → w.cell? ⟨b, o + j, none⟩ = some u
theorem Rf.nil {w : World} {F : Nat → Prop} {A : Option Addr} : Rf w F A [] := fun h => absurd h (by simp)
theorem Rf.rd {w : World} {F : Nat → Prop} {A : Option Addr} {xs : List Value} (h : Rf w F A xs) : Rd w w.heap.size A xs := by
  intro hn
  obtain ⟨b, o, e, hb, _, hc⟩ := h hn
  exact ⟨b, o, e, hb, hc⟩
theorem cell_block {w w' : World} {p : Addr} (h : w'.heap[p.block]? = w.heap[p.block]?) : w'.cell? p = w.cell? p := by
  unfold World.cell?
  rw [h]
theorem Rf.keep {w w' : World} {F F' : Nat → Prop} {A : Option Addr} {xs : List Value} (h : Rf w F A xs) (hk : Kp F w w') (hF : ∀ k, F' k → F k ∨ w.heap.size ≤ k) : Rf w' F' A xs := by
  intro hn
  obtain ⟨b, o, e, hb, hf, hc⟩ := h hn
  refine ⟨b, o, e, Nat.lt_of_lt_of_le hb hk.size, fun hf' => ?_, fun j u hu => ?_⟩
  · rcases hF b hf' with h1 | h1
    · exact hf h1
    · omega
  · rw [← hc j u hu]
    exact cell_block (hk.block b hb hf)
theorem Rf.all {w w' : World} {F : Nat → Prop} {A : Option Addr} {xs : List Value} (h : Rf w F A xs) (hb : Below w.heap.size w w') : Rf w' F A xs := h.keep (Kp.of_below hb) (fun _ hk => Or.inl hk)
theorem Rf.of_own {w : World} {F : Nat → Prop} {base : Nat} {A : Option Addr} {n c : Nat} {bs : List UInt8} (h : Own w base A n c bs) (hF : ∀ k, F k → k < base) : Rf w F A (bs.map B8) := by
  intro hn
  obtain ⟨b, o, e, hb, hc⟩ := h.rd hn
  refine ⟨b, o, e, hb, fun hf => ?_, hc⟩
  have h1 := hF b hf
  subst e
  rcases h.2.2 with ⟨h0, _⟩ | ⟨g, cap, cur, hv, hg, _⟩
  · cases h0
  · injection hv with e1 e2 e3
    injection e1 with e1
    injection e1 with e1
    omega
/-- the document's disk as a value -/
def dv (A : Option Addr) (n c : Nat) (d : D) : Value := .agg #[.slice A n c, .int .i64 d.safe, .int .i64 d.room, .int .i64 d.fuse, .bool d.off]
def Ds (w : World) (F : Nat → Prop) (v : Value) (d : D) : Prop := ∃ A n c, v = dv A n c d ∧ n = d.data.length ∧ n ≤ c ∧ Rf w F A (d.data.map B8)
theorem Ds.keep {w w' : World} {F F' : Nat → Prop} {v : Value} {d : D} (h : Ds w F v d) (hk : Kp F w w') (hF : ∀ k, F' k → F k ∨ w.heap.size ≤ k) : Ds w' F' v d := by
  obtain ⟨A, n, c, e, hn, hc, hr⟩ := h
  exact ⟨A, n, c, e, hn, hc, hr.keep hk hF⟩
theorem Ds.all {w w' : World} {F : Nat → Prop} {v : Value} {d : D} (h : Ds w F v d) (hb : Below w.heap.size w w') : Ds w' F v d := h.keep (Kp.of_below hb) (fun _ hk => Or.inl hk)
section
variable {w : World} {g : Nat} {A : Option Addr} {n c : Nat} {s r f : Int} {o : Bool}
end
end Go.Proofs.YtfblnomkafimhaaGreat.Dkw

namespace Go.Proofs.YtfblnomkafimhaaGreat.Dkw
set_option maxRecDepth 20000
open Go.RowKit
open Dk

/-- a disk is answered -/
def RetD (w : World) (F : Nat → Prop) (d : D) (e : Ending) (w' : World) : Prop := ∃ v, e = .returned v ∧ Ds w' F v d ∧ Below w.heap.size w w'
/-- what may be written to: F's blocks, and two of one's own -/
def Two (F : Nat → Prop) (g k : Nat) : Prop := F k ∨ k = g ∨ k = g + 1
end Go.Proofs.YtfblnomkafimhaaGreat.Dkw

namespace Go.Proofs.YtfblnomkafimhaaGreat.Dkw
set_option maxRecDepth 20000
open Go.RowKit
open Dk

end Go.Proofs.YtfblnomkafimhaaGreat.Dkw

namespace Go.Proofs.YtfblnomkafimhaaGreat.Dkw
set_option maxRecDepth 20000
open Go.RowKit
open Dk

/-- a disk and an error's number are answered -/
def RetDE (w : World) (F : Nat → Prop) (d : D) (x : Int) (e : Ending) (w' : World) : Prop := ∃ v, e = .returned (.tuple #[v, .int .i64 x]) ∧ Ds w' F v d ∧ Below w.heap.size w w'
end Go.Proofs.YtfblnomkafimhaaGreat.Dkw

namespace Go.Proofs.YtfblnomkafimhaaGreat.Dkw
set_option maxRecDepth 20000
open Go.RowKit
open Dk

def I64 (x : Int) : Prop := -9223372036854775808 ≤ x ∧ x ≤ 9223372036854775807
/-- F' has nothing but F's blocks and new ones, and all outside of F is as it was -/
def Gw (F F' : Nat → Prop) (w w' : World) : Prop := Kp F w w' ∧ ∀ k, F' k → F k ∨ w.heap.size ≤ k
theorem Gw.below {F F' : Nat → Prop} {w w' : World} (h : Gw F F' w w') {B : Nat} (hB : B ≤ w.heap.size) (hF : ∀ k, F k → B ≤ k) : Below B w w' ∧ ∀ k, F' k → B ≤ k :=
  ⟨h.1.below hB hF, fun k hk => by
    rcases h.2 k hk with h1 | h1
    · exact hF k h1
    · omega⟩
/-- an object of one's own, outside of F -/
def Lc (w : World) (F : Nat → Prop) (g : Nat) (o : Obj) : Prop := w.heap[g]? = some o ∧ ¬ F g
theorem Lc.lt {w : World} {F : Nat → Prop} {g : Nat} {o : Obj} (h : Lc w F g o) : g < w.heap.size := by
  rcases Nat.lt_or_ge g w.heap.size with h' | h'
  · exact h'
  · have := h.1; rw [Array.getElem?_eq_none h'] at this; cases this
theorem Lc.keep {w w' : World} {F F' : Nat → Prop} {g : Nat} {o : Obj} (h : Lc w F g o) (hg : Gw F F' w w') : Lc w' F' g o :=
  ⟨(hg.1.block g h.lt h.2).trans h.1, fun hf => by
    rcases hg.2 g hf with h1 | h1
    · exact h.2 h1
    · have := h.lt; omega⟩
theorem Lc.all {w w' : World} {F : Nat → Prop} {g : Nat} {o : Obj} (h : Lc w F g o) (hb : Below w.heap.size w w') : Lc w' F g o := ⟨(hb.block g h.lt).trans h.1, h.2⟩
theorem Lc.new {w : World} {F : Nat → Prop} {o : Obj} (hF : ∀ k, F k → k < w.heap.size) : Lc (w.alloc o) F w.heap.size o := ⟨hat _ _ _ rfl, fun hf => by have := hF _ hf; omega⟩
theorem Kp.mono {F F' : Nat → Prop} {w w' : World} (h : Kp F w w') (hs : ∀ k, F k → F' k) : Kp F' w w' := ⟨h.os, h.tape, h.output, h.size, fun k hk hf => h.block k hk (fun h => hf (hs k h))⟩
/-- a slice of bytes that came in -/
structure Pt where
  a : Option Addr
  n : Nat
  c : Nat
  bs : List UInt8
def Pt.v (p : Pt) : Value := .slice p.a p.n p.c
def Pt.ok (w : World) (B : Nat) (p : Pt) : Prop := p.n = p.bs.length ∧ p.n ≤ p.c ∧ p.n ≤ big ∧ Rd w B p.a (p.bs.map B8)
theorem Pt.ok.below {w w' : World} {B : Nat} {p : Pt} (h : p.ok w B) (hb : Below B w w') : p.ok w' B := ⟨h.1, h.2.1, h.2.2.1, h.2.2.2.below hb⟩
/-- the slice A holds these texts, below block B -/
def Pts (w : World) (B : Nat) (A : Option Addr) (ps : List Pt) : Prop := Rd w B A (ps.map Pt.v) ∧ ∀ p ∈ ps, p.ok w B
theorem Pts.below {w w' : World} {B : Nat} {A : Option Addr} {ps : List Pt} (h : Pts w B A ps) (hb : Below B w w') : Pts w' B A ps := ⟨h.1.below hb, fun p hp => (h.2 p hp).below hb⟩
/-- something done with a disk, as it came in -/
structure Ac where
  kind : Int
  num : Int
  pt : Pt
def Three (w : World) (b o : Nat) (x : Ac) : Prop := w.cell? ⟨b, o, none⟩ = some (.int .i64 x.kind) ∧ w.cell? ⟨b, o + 1, none⟩ = some (.int .i64 x.num) ∧ w.cell? ⟨b, o + 2, none⟩ = some (.slice x.pt.a x.pt.n x.pt.c)
theorem Three.below {w w' : World} {b o B : Nat} {x : Ac} (h : Three w b o x) (hb : Below B w w') (hB : b < B) : Three w' b o x :=
  ⟨(hb.cell (p := ⟨b, o, none⟩) hB).trans h.1, (hb.cell (p := ⟨b, o + 1, none⟩) hB).trans h.2.1, (hb.cell (p := ⟨b, o + 2, none⟩) hB).trans h.2.2⟩
/-- the slice A holds these acts, below block B -/
def Acs (w : World) (B : Nat) (A : Option Addr) (xs : List Ac) : Prop :=
  (0 < xs.length → ∃ b o, A = some ⟨b, o, none⟩ ∧ b < B ∧ ∀ (j : Nat) (x : Ac), xs[j]? = some x → Three w b (o + j * 3) x) ∧ ∀ x ∈ xs, I64 x.kind ∧ I64 x.num ∧ x.pt.ok w B
end Go.Proofs.YtfblnomkafimhaaGreat.Dkw

namespace Go.Proofs.YtfblnomkafimhaaGreat.Dkw
set_option maxRecDepth 20000
open Go.RowKit
open Dk

section
variable {w : World} {g : Nat} {A : Option Addr} {n c : Nat} {s r f : Int} {o : Bool}
end
/-- the blocks of a disk: its own, and that of its bytes -/
def Fs (g : Nat) (v : Value) (k : Nat) : Prop := k = g ∨ v.ownBlock = some k
/-- what package disk has of every disk -/
def Fits (d : D) : Prop := Iv d ∧ True
theorem Gw.trans {F F1 F2 : Nat → Prop} {w w1 w2 : World} (h : Gw F F1 w w1) (h2 : Gw F1 F2 w1 w2) : Gw F F2 w w2 := by
  refine ⟨⟨h2.1.os.trans h.1.os, h2.1.tape.trans h.1.tape, h2.1.output.trans h.1.output, Nat.le_trans h.1.size h2.1.size, fun k hk hf => ?_⟩, fun k hk => ?_⟩
  · refine (h2.1.block k (Nat.lt_of_lt_of_le hk h.1.size) (fun h3 => ?_)).trans (h.1.block k hk hf)
    rcases h.2 k h3 with h4 | h4
    · exact hf h4
    · omega
  · rcases h2.2 k hk with h3 | h3
    · exact h.2 k h3
    · exact Or.inr (Nat.le_trans h.1.size h3)
theorem Gw.of_below {F : Nat → Prop} {w w' : World} (h : Below w.heap.size w w') : Gw F F w w' := ⟨Kp.of_below h, fun _ h => Or.inl h⟩
end Go.Proofs.YtfblnomkafimhaaGreat.Dkw

namespace Go.Proofs.YtfblnomkafimhaaGreat.Dkw
set_option maxRecDepth 20000
open Go.RowKit
open Dk

/-- the first n bytes are left -/
def leaveD (d : D) (n : Nat) : D := { d with data := d.data.take n, safe := min d.safe n }
end Go.Proofs.YtfblnomkafimhaaGreat.Dkw
