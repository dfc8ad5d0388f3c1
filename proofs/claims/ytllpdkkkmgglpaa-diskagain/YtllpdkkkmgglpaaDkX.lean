/- Words in which the contracts of package disk are told. -/
import Derived.Test.YtllpdkkkmgglpaaDkT
import Derived.Laws.Concat
namespace Go.Proofs.Ytllpdkkkmgglpaa.Dkw
open Go.RowKit
open Dk

def I64 (x : Int) : Prop := -9223372036854775808 ≤ x ∧ x ≤ 9223372036854775807
/-- F' has nothing but F's blocks and new ones, and all outside of F is as it was -/
def Gw (F F' : Nat → Prop) (w w' : World) : Prop := Kp F w w' ∧ ∀ k, F' k → F k ∨ w.heap.size ≤ k
theorem Gw.below {F F' : Nat → Prop} {w w' : World} (h : Gw F F' w w') {B : Nat} (hB : B ≤ w.heap.size) (hF : ∀ k, F k → B ≤ k) : Below B w w' ∧ ∀ k, F' k → B ≤ k :=
  ⟨h.1.below hB hF, fun k hk => by
    rcases h.2 k hk with h1 | h1
    · exact hF k h1
    · omega⟩
/-- an object of one's own, outside of F -/
def Lc (w : World) (F : Nat → Prop) (g : Nat) (o : Obj) : Prop := w.heap[g]? = some o ∧ ¬ F g
theorem Lc.lt {w : World} {F : Nat → Prop} {g : Nat} {o : Obj} (h : Lc w F g o) : g < w.heap.size := by
  rcases Nat.lt_or_ge g w.heap.size with h' | h'
  · exact h'
  · have := h.1; rw [Array.getElem?_eq_none h'] at this; cases this
theorem Lc.keep {w w' : World} {F F' : Nat → Prop} {g : Nat} {o : Obj} (h : Lc w F g o) (hg : Gw F F' w w') : Lc w' F' g o :=
  ⟨(hg.1.block g h.lt h.2).trans h.1, fun hf => by
    rcases hg.2 g hf with h1 | h1
    · exact h.2 h1
    · have := h.lt; omega⟩
theorem Lc.all {w w' : World} {F : Nat → Prop} {g : Nat} {o : Obj} (h : Lc w F g o) (hb : Below w.heap.size w w') : Lc w' F g o := ⟨(hb.block g h.lt).trans h.1, h.2⟩
theorem Lc.new {w : World} {F : Nat → Prop} {o : Obj} (hF : ∀ k, F k → k < w.heap.size) : Lc (w.alloc o) F w.heap.size o := ⟨hat _ _ _ rfl, fun hf => by have := hF _ hf; omega⟩
theorem Kp.mono {F F' : Nat → Prop} {w w' : World} (h : Kp F w w') (hs : ∀ k, F k → F' k) : Kp F' w w' := ⟨h.os, h.tape, h.output, h.size, fun k hk hf => h.block k hk (fun h => hf (hs k h))⟩
/-- a row of one's own stays where something else is stored to -/
theorem rows_set {w : World} {base g n c : Nat} {e : TypeId} {A : Option Addr} {vs : List Value} (h : w.ownsRow base e 1 (.slice A n c) n vs) (hg : ∀ k, A = some ⟨k, 0, none⟩ → k ≠ g ∨ False) (i : Nat) (u : Value) : (w.setCell ⟨g, i, none⟩ u).ownsRow base e 1 (.slice A n c) n vs := by
  refine ⟨h.1, ?_⟩
  rcases h.2 with h0 | ⟨b, cap, cur, hv, hgb, hh, r⟩
  · exact .inl h0
  · refine .inr ⟨b, cap, cur, hv, hgb, ?_, r⟩
    injection hv with e1 e2 e3
    have hne : b ≠ g := (hg b e1).elim id False.elim
    exact (Below.heap_setCell w ⟨g, i, none⟩ u b hne).trans hh
/-- a slice of bytes that came in -/
structure Pt where
  a : Option Addr
  n : Nat
  c : Nat
  bs : List UInt8
def Pt.v (p : Pt) : Value := .slice p.a p.n p.c
def Pt.ok (w : World) (B : Nat) (p : Pt) : Prop := p.n = p.bs.length ∧ p.n ≤ p.c ∧ p.n ≤ big ∧ Rd w B p.a (p.bs.map B8)
theorem Pt.ok.below {w w' : World} {B : Nat} {p : Pt} (h : p.ok w B) (hb : Below B w w') : p.ok w' B := ⟨h.1, h.2.1, h.2.2.1, h.2.2.2.below hb⟩
/-- the slice A holds these texts, below block B -/
def Pts (w : World) (B : Nat) (A : Option Addr) (ps : List Pt) : Prop := Rd w B A (ps.map Pt.v) ∧ ∀ p ∈ ps, p.ok w B
theorem Pts.below {w w' : World} {B : Nat} {A : Option Addr} {ps : List Pt} (h : Pts w B A ps) (hb : Below B w w') : Pts w' B A ps := ⟨h.1.below hb, fun p hp => (h.2 p hp).below hb⟩
theorem str_append (a b : List UInt8) : str a ++ str b = str (a ++ b) := by
  apply ByteArray.ext
  simp [str]
theorem str_add (a b : List UInt8) (ha : a.length ≤ 8388608) (hb : b.length ≤ 8388608) (w : World) : (Op.stringOp .add (str a) (str b)).run Try.prog w = .ok (.string (str (a ++ b))) w := by
  rw [run_string_add w (str a) (str b) (by rw [str_size]; omega) (by rw [str_size]; omega), str_append]
theorem str_take (W : List UInt8) (n : Nat) : (str W).extract 0 n = str (W.take n) := by
  apply ByteArray.ext
  simp [str]
theorem str_same (a : List UInt8) : ((str a).toList == (str a).toList) = true := by simp
/-- something done with a disk, as it came in -/
structure Ac where
  kind : Int
  num : Int
  pt : Pt
def Three (w : World) (b o : Nat) (x : Ac) : Prop := w.cell? ⟨b, o, none⟩ = some (.int .i64 x.kind) ∧ w.cell? ⟨b, o + 1, none⟩ = some (.int .i64 x.num) ∧ w.cell? ⟨b, o + 2, none⟩ = some (.slice x.pt.a x.pt.n x.pt.c)
theorem Three.below {w w' : World} {b o B : Nat} {x : Ac} (h : Three w b o x) (hb : Below B w w') (hB : b < B) : Three w' b o x :=
  ⟨(hb.cell (p := ⟨b, o, none⟩) hB).trans h.1, (hb.cell (p := ⟨b, o + 1, none⟩) hB).trans h.2.1, (hb.cell (p := ⟨b, o + 2, none⟩) hB).trans h.2.2⟩
/-- the slice A holds these acts, below block B -/
def Acs (w : World) (B : Nat) (A : Option Addr) (xs : List Ac) : Prop :=
  (0 < xs.length → ∃ b o, A = some ⟨b, o, none⟩ ∧ b < B ∧ ∀ (j : Nat) (x : Ac), xs[j]? = some x → Three w b (o + j * 3) x) ∧ ∀ x ∈ xs, I64 x.kind ∧ I64 x.num ∧ x.pt.ok w B
end Go.Proofs.Ytllpdkkkmgglpaa.Dkw
