/- Words in which the contracts of package disk are told. -/
import Derived.Test.YtgcmejhgfdipkaaDkT
import Derived.Laws.Concat
namespace Go.Proofs.Ytgcmejhgfdipkaa.Dkw
open Go.RowKit
open Dk

def I64 (x : Int) : Prop := -9223372036854775808 ≤ x ∧ x ≤ 9223372036854775807
/-- F' has nothing but F's blocks and new ones, and all outside of F is as it was -/
def Gw (F F' : Nat → Prop) (w w' : World) : Prop := Kp F w w' ∧ ∀ k, F' k → F k ∨ w.heap.size ≤ k
theorem Gw.below {F F' : Nat → Prop} {w w' : World} (h : Gw F F' w w') {B : Nat} (hB : B ≤ w.heap.size) (hF : ∀ k, F k → B ≤ k) : Below B w w' ∧ ∀ k, F' k → B ≤ k :=
  ⟨h.1.below hB hF, fun k hk => by
    rcases h.2 k hk with h1 | h1
    · exact hF k h1
    · omega⟩
/-- an object of one's own, outside of F -/
def Lc (w : World) (F : Nat → Prop) (g : Nat) (o : Obj) : Prop := w.heap[g]? = some o ∧ ¬ F g
theorem Lc.lt {w : World} {F : Nat → Prop} {g : Nat} {o : Obj} (h : Lc w F g o) : g < w.heap.size := by
  rcases Nat.lt_or_ge g w.heap.size with h' | h'
  · exact h'
  · have := h.1; rw [Array.getElem?_eq_none h'] at this; cases this
theorem Lc.keep {w w' : World} {F F' : Nat → Prop} {g : Nat} {o : Obj} (h : Lc w F g o) (hg : Gw F F' w w') : Lc w' F' g o :=
  ⟨(hg.1.block g h.lt h.2).trans h.1, fun hf => by
    rcases hg.2 g hf with h1 | h1
    · exact h.2 h1
    · have := h.lt; omega⟩
theorem Lc.all {w w' : World} {F : Nat → Prop} {g : Nat} {o : Obj} (h : Lc w F g o) (hb : Below w.heap.size w w') : Lc w' F g o := ⟨(hb.block g h.lt).trans h.1, h.2⟩
theorem Lc.new {w : World} {F : Nat → Prop} {o : Obj} (hF : ∀ k, F k → k < w.heap.size) : Lc (w.alloc o) F w.heap.size o := ⟨hat _ _ _ rfl, fun hf => by have := hF _ hf; omega⟩
/-- the document's disk in a variable of one's own, outside of F -/
def Rw (w : World) (F : Nat → Prop) (g : Nat) (d : D) : Prop := ∃ A n c, Dx w g A n c d.safe d.room d.fuse d.off ∧ n = d.data.length ∧ n ≤ c ∧ Rf w (fun k => F k ∨ k = g) A (d.data.map B8) ∧ ¬ F g
theorem Rw.keep {w w' : World} {F F' : Nat → Prop} {g : Nat} {d : D} (h : Rw w F g d) (hg : Gw F F' w w') : Rw w' F' g d := by
  obtain ⟨A, n, c, hx, hn, hc, hr, hf⟩ := h
  have hl := Lc.keep ⟨hx, hf⟩ hg
  refine ⟨A, n, c, hl.1, hn, hc, ?_, hl.2⟩
  have h1 : Rf w' F' A (d.data.map B8) := Rf.keep (F := F) (fun hp => by
    obtain ⟨b, o, e, hb, hq, hc⟩ := hr hp
    exact ⟨b, o, e, hb, fun h => hq (Or.inl h), hc⟩) hg.1 hg.2
  intro hp
  obtain ⟨b, o, e, hb, hq, hc⟩ := h1 hp
  obtain ⟨b2, o2, e2, _, hq2, _⟩ := hr hp
  rw [e] at e2
  injection e2 with e2
  injection e2 with e3 e4
  subst e3
  exact ⟨b, o, e, hb, fun h => h.elim hq (fun h => hq2 (Or.inr h)), hc⟩
theorem Rw.all {w w' : World} {F : Nat → Prop} {g : Nat} {d : D} (h : Rw w F g d) (hb : Below w.heap.size w w') : Rw w' F g d := h.keep ⟨Kp.of_below hb, fun _ hk => Or.inl hk⟩
/-- another one is stored there -/
theorem Rw.store {w : World} {F : Nat → Prop} {g : Nat} {d d' : D} (h : Rw w F g d) {A : Option Addr} {n c : Nat} (hn : n = d'.data.length) (hc : n ≤ c) (hr : Rf w (fun k => F k ∨ k = g) A (d'.data.map B8)) :
    Rw (((((w.setCell ⟨g, 0, none⟩ (.slice A n c)).setCell ⟨g, 1, none⟩ (.int .i64 d'.safe)).setCell ⟨g, 2, none⟩ (.int .i64 d'.room)).setCell ⟨g, 3, none⟩ (.int .i64 d'.fuse)).setCell ⟨g, 4, none⟩ (.bool d'.off)) F g d' := by
  obtain ⟨A0, n0, c0, hx, _, _, _, hf⟩ := h
  refine ⟨A, n, c, ((((hx.setA A n c).setS _).setR _).setF _).setO _, hn, hc, ?_, hf⟩
  exact hr.keep (((((((Kp.refl _ w).setCell (Or.inr rfl) _).setCell (Or.inr rfl) _).setCell (Or.inr rfl) _).setCell (Or.inr rfl) _).setCell (Or.inr rfl) _)) (fun _ h => Or.inl h)
theorem Rw.sub {w : World} {F F' : Nat → Prop} {g : Nat} {d : D} (h : Rw w F' g d) (hs : ∀ k, F k → F' k) : Rw w F g d := by
  obtain ⟨A, n, c, hx, hn, hc, hr, hf⟩ := h
  refine ⟨A, n, c, hx, hn, hc, ?_, fun h => hf (hs _ h)⟩
  intro hp
  obtain ⟨b, o, e, hb, hq, hce⟩ := hr hp
  exact ⟨b, o, e, hb, fun h => hq (h.elim (fun h => Or.inl (hs _ h)) Or.inr), hce⟩
theorem Rw.sup {w : World} {F F' : Nat → Prop} {g : Nat} {d : D} (h : Rw w F g d) (hs : ∀ k, F' k → F k ∨ w.heap.size ≤ k) : Rw w F' g d := h.keep ⟨Kp.refl _ _, hs⟩
theorem Kp.mono {F F' : Nat → Prop} {w w' : World} (h : Kp F w w') (hs : ∀ k, F k → F' k) : Kp F' w w' := ⟨h.os, h.tape, h.output, h.size, fun k hk hf => h.block k hk (fun h => hf (hs k h))⟩
/-- a row of one's own stays where something else is stored to -/
theorem rows_set {w : World} {base g n c : Nat} {e : TypeId} {A : Option Addr} {vs : List Value} (h : w.ownsRow base e 1 (.slice A n c) n vs) (hg : ∀ k, A = some ⟨k, 0, none⟩ → k ≠ g ∨ False) (i : Nat) (u : Value) : (w.setCell ⟨g, i, none⟩ u).ownsRow base e 1 (.slice A n c) n vs := by
  refine ⟨h.1, ?_⟩
  rcases h.2 with h0 | ⟨b, cap, cur, hv, hgb, hh, r⟩
  · exact .inl h0
  · refine .inr ⟨b, cap, cur, hv, hgb, ?_, r⟩
    injection hv with e1 e2 e3
    have hne : b ≠ g := (hg b e1).elim id False.elim
    exact (Below.heap_setCell w ⟨g, i, none⟩ u b hne).trans hh
/-- a slice of bytes that came in -/
structure Pt where
  a : Option Addr
  n : Nat
  c : Nat
  bs : List UInt8
def Pt.v (p : Pt) : Value := .slice p.a p.n p.c
def Pt.ok (w : World) (B : Nat) (p : Pt) : Prop := p.n = p.bs.length ∧ p.n ≤ p.c ∧ p.n ≤ big ∧ Rd w B p.a (p.bs.map B8)
theorem Pt.ok.below {w w' : World} {B : Nat} {p : Pt} (h : p.ok w B) (hb : Below B w w') : p.ok w' B := ⟨h.1, h.2.1, h.2.2.1, h.2.2.2.below hb⟩
/-- the slice A holds these texts, below block B -/
def Pts (w : World) (B : Nat) (A : Option Addr) (ps : List Pt) : Prop := Rd w B A (ps.map Pt.v) ∧ ∀ p ∈ ps, p.ok w B
theorem Pts.below {w w' : World} {B : Nat} {A : Option Addr} {ps : List Pt} (h : Pts w B A ps) (hb : Below B w w') : Pts w' B A ps := ⟨h.1.below hb, fun p hp => (h.2 p hp).below hb⟩
theorem str_append (a b : List UInt8) : str a ++ str b = str (a ++ b) := by
  apply ByteArray.ext
  simp [str]
theorem str_add (a b : List UInt8) (ha : a.length ≤ 8388608) (hb : b.length ≤ 8388608) (w : World) : (Op.stringOp .add (str a) (str b)).run Try.prog w = .ok (.string (str (a ++ b))) w := by
  rw [run_string_add w (str a) (str b) (by rw [str_size]; omega) (by rw [str_size]; omega), str_append]
theorem str_take (W : List UInt8) (n : Nat) : (str W).extract 0 n = str (W.take n) := by
  apply ByteArray.ext
  simp [str]
theorem str_same (a : List UInt8) : ((str a).toList == (str a).toList) = true := by simp
/-- something done with a disk, as it came in -/
structure Ac where
  kind : Int
  num : Int
  pt : Pt
def Three (w : World) (b o : Nat) (x : Ac) : Prop := w.cell? ⟨b, o, none⟩ = some (.int .i64 x.kind) ∧ w.cell? ⟨b, o + 1, none⟩ = some (.int .i64 x.num) ∧ w.cell? ⟨b, o + 2, none⟩ = some (.slice x.pt.a x.pt.n x.pt.c)
theorem Three.below {w w' : World} {b o B : Nat} {x : Ac} (h : Three w b o x) (hb : Below B w w') (hB : b < B) : Three w' b o x :=
  ⟨(hb.cell (p := ⟨b, o, none⟩) hB).trans h.1, (hb.cell (p := ⟨b, o + 1, none⟩) hB).trans h.2.1, (hb.cell (p := ⟨b, o + 2, none⟩) hB).trans h.2.2⟩
/-- the slice A holds these acts, below block B -/
def Acs (w : World) (B : Nat) (A : Option Addr) (xs : List Ac) : Prop :=
  (0 < xs.length → ∃ b o, A = some ⟨b, o, none⟩ ∧ b < B ∧ ∀ (j : Nat) (x : Ac), xs[j]? = some x → Three w b (o + j * 3) x) ∧ ∀ x ∈ xs, I64 x.kind ∧ I64 x.num ∧ x.pt.ok w B
end Go.Proofs.Ytgcmejhgfdipkaa.Dkw
