/- What the document's functions of layer 8 answer: contracts by walks. -/
import Derived.Test.YtllpdkkkmgglpaaDkW
namespace Go.Proofs.Ytllpdkkkmgglpaa.Dkw
open Go.RowKit
open Dk

/-- a disk is answered -/
def RetD (w : World) (F : Nat → Prop) (d : D) (e : Ending) (w' : World) : Prop := ∃ v, e = .returned v ∧ Ds w' F v d ∧ Below w.heap.size w w'
theorem store_slc (a : Addr) (m : Mode) (w : World) (A : Option Addr) (n c : Nat) : (store a (.slice A n c) m).run Try.prog w = stored Try.prog w a (.slice A n c) m := run_store _ w a _ m rfl
/-- what may be written to: F's blocks, and two of one's own -/
def Two (F : Nat → Prop) (g k : Nat) : Prop := F k ∨ k = g ∨ k = g + 1
theorem own_two {F : Nat → Prop} {g : Nat} {w w' : World} {A : Option Addr} {n c : Nat} {bs : List UInt8} (hF : ∀ k, F k → k < g) (h : Own w (g + 2) A n c bs) (hk : Kp (Two F g) w w') : Rf w' F A (bs.map B8) := by
  have h1 : Rf w (Two F g) A (bs.map B8) := Rf.of_own h (fun k hk => by
    rcases hk with h | h | h
    · have := hF k h; omega
    · omega
    · omega)
  exact h1.keep hk (fun k h => Or.inl (Or.inl h))
end Go.Proofs.Ytllpdkkkmgglpaa.Dkw
