/- Contracts and words on which the claims of this seat stand, part 2: WireC WireG WireH WireR WireS WireT WireF. -/
import Derived.Test.YtfblnomkafimhaaGreatG01
import Derived.BigQuiet
import Derived.Deep.QuietTactic
import Derived.WalkSpells
import Derived.Laws.BitsAllLaws
import Derived.Deep.RegionWith
set_option linter.unusedSimpArgs false
set_option linter.unusedVariables false
namespace Go.Proofs.YtfblnomkafimhaaGreat
set_option maxRecDepth 20000
open Go.RowKit
open Wire

end Go.Proofs.YtfblnomkafimhaaGreat

namespace Go.Proofs.YtfblnomkafimhaaGreat
set_option maxRecDepth 20000
open Go.RowKit
open Wire

/-- a head and the rest in memory -/
theorem Rd.head {w : World} {B : Nat} {A : Option Addr} {s : UInt8} {l : List UInt8} (h : Rd w B A ((s :: l).map B8)) : ∃ b o, A = some ⟨b, o, none⟩ ∧ b < B ∧ w.cell? ⟨b, o, none⟩ = some (.int .u8 (s.toNat : Int)) := by
  obtain ⟨b, o, e, hb, hc⟩ := h (by simp)
  exact ⟨b, o, e, hb, hc 0 (B8 s) (by simp)⟩

def RetNo (w : World) (e : Ending) (w' : World) : Prop := e = .returned (.tuple #[.int .u64 0, .slice none 0 0, .bool false]) ∧ ∃ k, w' = w.drewN k
def RetYes (w : World) (B v : Nat) (r : List UInt8) (e : Ending) (w' : World) : Prop :=
  ∃ A n c, e = .returned (.tuple #[.int .u64 v, .slice A n c, .bool true]) ∧ n = r.length ∧ n ≤ c ∧ Rd w B A (r.map B8) ∧ ∃ k, w' = w.drewN k

end Go.Proofs.YtfblnomkafimhaaGreat

namespace Go.Proofs.YtfblnomkafimhaaGreat
set_option maxRecDepth 20000
open Go.RowKit
open Wire

/-- the slice A holds the numbers ns, in a row of the call's own -/
def OwnN (w : World) (base : Nat) (A : Option Addr) (n c : Nat) (ns : List Nat) : Prop := n = ns.length ∧ w.ownsRow base 148 1 (.slice A n c) n (ns.map N64)
theorem OwnN.rd {w : World} {base : Nat} {A : Option Addr} {n c : Nat} {ns : List Nat} (h : OwnN w base A n c ns) : Rd w w.heap.size A (ns.map N64) := Rd.of_own h.2
theorem OwnN.below {w w' : World} {base B : Nat} {A : Option Addr} {n c : Nat} {ns : List Nat} (h : OwnN w base A n c ns) (hb : Below B w w') (hB : w.heap.size ≤ B) : OwnN w' base A n c ns := ⟨h.1, own_below h.2 hb hB⟩
theorem OwnN.base {w : World} {base base' : Nat} {A : Option Addr} {n c : Nat} {ns : List Nat} (h : OwnN w base A n c ns) (hB : base' ≤ base) : OwnN w base' A n c ns := ⟨h.1, own_base h.2 hB⟩
theorem OwnN.alloc {w : World} {base : Nat} {A : Option Addr} {n c : Nat} {ns : List Nat} (h : OwnN w base A n c ns) (o : Obj) : OwnN (w.alloc o) base A n c ns := ⟨h.1, h.2.alloc o⟩
/-- what Get answers -/
def RetGet (w : World) (o : Option (Nat × List UInt8)) (e : Ending) (w' : World) : Prop :=
  Below w.heap.size w w' ∧ match o with
  | none => e = .returned (.tuple #[.int .u64 0, .slice none 0 0, .int .i64 21])
  | some (v, r) => ∃ A n c, e = .returned (.tuple #[.int .u64 v, .slice A n c, .int .i64 0]) ∧ Own w' w.heap.size A n c r
/-- what Gets answers -/
def RetGets (w : World) (o : Option (List Nat × List UInt8)) (e : Ending) (w' : World) : Prop :=
  Below w.heap.size w w' ∧ match o with
  | none => e = .returned (.tuple #[.slice none 0 0, .slice none 0 0, .int .i64 21])
  | some (ns, r) => ∃ A n c A2 n2 c2, e = .returned (.tuple #[.slice A n c, .slice A2 n2 c2, .int .i64 0]) ∧ OwnN w' w.heap.size A n c ns ∧ Own w' w.heap.size A2 n2 c2 r
/-- what Text answers -/
def RetText (w : World) (b t : List UInt8) (e : Ending) (w' : World) : Prop :=
  Below w.heap.size w w' ∧ ((4000 < t.length ∧ e = .returned (.tuple #[.slice none 0 0, .int .i64 21])) ∨
    (t.length ≤ 4000 ∧ ∃ A n c, e = .returned (.tuple #[.slice A n c, .int .i64 0]) ∧ Own w' w.heap.size A n c (textF b t)))
/-- what Cut answers -/
def RetCut (w : World) (o : Option (List UInt8 × List UInt8)) (e : Ending) (w' : World) : Prop :=
  Below w.heap.size w w' ∧ match o with
  | none => e = .returned (.tuple #[.slice none 0 0, .slice none 0 0, .int .i64 21])
  | some (t, r) => ∃ A n c A2 n2 c2, e = .returned (.tuple #[.slice A n c, .slice A2 n2 c2, .int .i64 0]) ∧ Own w' w.heap.size A n c t ∧ Own w' w.heap.size A2 n2 c2 r

/-- so many numbers, many any number -/
def getsI (many : Int) (bs : List UInt8) : Option (List Nat × List UInt8) := if many < 0 ∨ 100 < many then none else getsF many.toNat bs

end Go.Proofs.YtfblnomkafimhaaGreat

namespace Go.Proofs.YtfblnomkafimhaaGreat
set_option maxRecDepth 20000
open Go.RowKit
open Wire

end Go.Proofs.YtfblnomkafimhaaGreat

namespace Go.Proofs.YtfblnomkafimhaaGreat
set_option maxRecDepth 20000
open Go.RowKit
open Wire

def sliceLen : Value → Nat | .slice _ n _ => n | _ => 0
theorem OwnN.keep {w w' : World} {base B : Nat} {A : Option Addr} {n c : Nat} {ns : List Nat} (h : OwnN w base A n c ns) (hb : Below B w w') (hB : ∀ b o, A = some ⟨b, o, none⟩ → b < B) : OwnN w' base A n c ns := by
  refine ⟨h.1, h.2.1, ?_⟩
  rcases h.2.2 with h0 | ⟨g, cap, cur, hv, hg, hh, r⟩
  · exact .inl h0
  · refine .inr ⟨g, cap, cur, hv, hg, ?_, r⟩
    injection hv with e1
    rw [hb.block g (hB g 0 e1)]
    exact hh

end Go.Proofs.YtfblnomkafimhaaGreat

namespace Go.Proofs.YtfblnomkafimhaaGreat
set_option maxRecDepth 20000
open Go.RowKit
open Wire

/-- what the document's Cut answers: two parts of one row -/
def RetCutR (w : World) (o : Option (List UInt8 × List UInt8)) (e : Ending) (w' : World) : Prop :=
  Below w.heap.size w w' ∧ match o with
  | none => e = .returned (.tuple #[.slice none 0 0, .slice none 0 0, .int .i64 21])
  | some (t, r) => ∃ A n c A2 n2 c2, e = .returned (.tuple #[.slice A n c, .slice A2 n2 c2, .int .i64 0]) ∧ n = t.length ∧ n2 = r.length ∧ Rd w' w'.heap.size A (t.map B8) ∧ Rd w' w'.heap.size A2 (r.map B8)

/-- the same, with what the slices can hold -/
def RetCutRC (w : World) (o : Option (List UInt8 × List UInt8)) (e : Ending) (w' : World) : Prop :=
  Below w.heap.size w w' ∧ match o with
  | none => e = .returned (.tuple #[.slice none 0 0, .slice none 0 0, .int .i64 21])
  | some (t, r) => ∃ A n c A2 n2 c2, e = .returned (.tuple #[.slice A n c, .slice A2 n2 c2, .int .i64 0]) ∧ n = t.length ∧ n2 = r.length ∧ Rd w' w'.heap.size A (t.map B8) ∧ Rd w' w'.heap.size A2 (r.map B8) ∧ n ≤ c ∧ n2 ≤ c2
def RetBool (w : World) (b : Bool) (e : Ending) (w' : World) : Prop := e = .returned (.bool b) ∧ ∃ k, w' = w.drewN k

end Go.Proofs.YtfblnomkafimhaaGreat

namespace Go.Proofs.YtfblnomkafimhaaGreat
set_option maxRecDepth 20000
open Go.RowKit
open Wire

def gE {α : Type} (o : Option α) : Int := if o.isSome then 0 else 21
def gV (o : Option (Nat × List UInt8)) : Nat := (o.map (·.1)).getD 0
def gR {α : Type} (o : Option (α × List UInt8)) : List UInt8 := (o.map (·.2)).getD []
def gL {α : Type} (o : Option (List α × List UInt8)) : List α := (o.map (·.1)).getD []

theorem RetGet.flat {w : World} {o : Option (Nat × List UInt8)} {e : Ending} {w' : World} (h : RetGet w o e w') :
    ∃ A n c, e = .returned (.tuple #[.int .u64 (gV o), .slice A n c, .int .i64 (gE o)]) ∧ n = (gR o).length ∧ n ≤ c ∧ Rd w' w'.heap.size A ((gR o).map B8) ∧ Below w.heap.size w w' := by
  obtain ⟨hb, h⟩ := h
  cases o with
  | none => exact ⟨none, 0, 0, h, rfl, Nat.le_refl _, Rd.nil, hb⟩
  | some x =>
    obtain ⟨A, n, c, he, ho⟩ := h
    exact ⟨A, n, c, he, ho.1, ho.cap, ho.rd, hb⟩
theorem RetGets.flat {w : World} {o : Option (List Nat × List UInt8)} {e : Ending} {w' : World} (h : RetGets w o e w') :
    ∃ A n c A2 n2 c2, e = .returned (.tuple #[.slice A n c, .slice A2 n2 c2, .int .i64 (gE o)]) ∧ n = (gL o).length ∧ n2 = (gR o).length ∧ Rd w' w'.heap.size A ((gL o).map N64) ∧ Rd w' w'.heap.size A2 ((gR o).map B8) ∧ Below w.heap.size w w' := by
  obtain ⟨hb, h⟩ := h
  cases o with
  | none => exact ⟨none, 0, 0, none, 0, 0, h, rfl, rfl, Rd.nil, Rd.nil, hb⟩
  | some x =>
    obtain ⟨A, n, c, A2, n2, c2, he, ho, hp⟩ := h
    exact ⟨A, n, c, A2, n2, c2, he, ho.1, hp.1, ho.rd, hp.rd, hb⟩
theorem RetCut.flat {w : World} {o : Option (List UInt8 × List UInt8)} {e : Ending} {w' : World} (h : RetCut w o e w') :
    ∃ A n c A2 n2 c2, e = .returned (.tuple #[.slice A n c, .slice A2 n2 c2, .int .i64 (gE o)]) ∧ n = (gL o).length ∧ n2 = (gR o).length ∧ Rd w' w'.heap.size A ((gL o).map B8) ∧ Rd w' w'.heap.size A2 ((gR o).map B8) ∧ Below w.heap.size w w' := by
  obtain ⟨hb, h⟩ := h
  cases o with
  | none => exact ⟨none, 0, 0, none, 0, 0, h, rfl, rfl, Rd.nil, Rd.nil, hb⟩
  | some x =>
    obtain ⟨A, n, c, A2, n2, c2, he, ho, hp⟩ := h
    exact ⟨A, n, c, A2, n2, c2, he, ho.1, hp.1, ho.rd, hp.rd, hb⟩
theorem RetCutR.flat {w : World} {o : Option (List UInt8 × List UInt8)} {e : Ending} {w' : World} (h : RetCutR w o e w') :
    ∃ A n c A2 n2 c2, e = .returned (.tuple #[.slice A n c, .slice A2 n2 c2, .int .i64 (gE o)]) ∧ n = (gL o).length ∧ n2 = (gR o).length ∧ Rd w' w'.heap.size A ((gL o).map B8) ∧ Rd w' w'.heap.size A2 ((gR o).map B8) ∧ Below w.heap.size w w' := by
  obtain ⟨hb, h⟩ := h
  cases o with
  | none => exact ⟨none, 0, 0, none, 0, 0, h, rfl, rfl, Rd.nil, Rd.nil, hb⟩
  | some x =>
    obtain ⟨A, n, c, A2, n2, c2, he, h1, h2, h3, h4⟩ := h
    exact ⟨A, n, c, A2, n2, c2, he, h1, h2, h3, h4, hb⟩

end Go.Proofs.YtfblnomkafimhaaGreat
