/- What the document's Append of layer 8 answers: a contract by a walk. -/
import Derived.Test.YtllpdkkkmgglpaaDkS
namespace Go.Proofs.Ytllpdkkkmgglpaa.Dkw
open Go.RowKit
open Dk

/-- a disk and an error's number are answered -/
def RetDE (w : World) (F : Nat → Prop) (d : D) (x : Int) (e : Ending) (w' : World) : Prop := ∃ v, e = .returned (.tuple #[v, .int .i64 x]) ∧ Ds w' F v d ∧ Below w.heap.size w w'
theorem own_set {w : World} {base : Nat} {A : Option Addr} {n c : Nat} {bs : List UInt8} (h : Own w base A n c bs) {p : Addr} (hp : p.block < base) (u : Value) : Own (w.setCell p u) base A n c bs := by
  refine ⟨h.1, h.2.1, ?_⟩
  rcases h.2.2 with h0 | ⟨g, cap, cur, hv, hg, hh, r⟩
  · exact .inl h0
  · exact .inr ⟨g, cap, cur, hv, hg, (Below.heap_setCell w p u g (by omega)).trans hh, r⟩
end Go.Proofs.Ytllpdkkkmgglpaa.Dkw
