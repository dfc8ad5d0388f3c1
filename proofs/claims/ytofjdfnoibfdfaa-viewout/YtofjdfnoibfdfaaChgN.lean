/- What the document's Within and Named of layer 4 answer: contracts by walks. -/
import Derived.Test.YtofjdfnoibfdfaaChgM
namespace Go.Proofs.Ytofjdfnoibfdfaa
open Go.RowKit
open Chg

def withinV (a d b c : Nat) : Bool := within a b && within d c

theorem within_r (a d : Nat) (ha : a < 64) (hd : d < 64) (b c : Nat) (hb : b < 64) (hc : c < 64) (w : World) : Calls Try.prog 35 #[vw a d, vw b c] w fun e w' => e = .returned (.bool (withinV a d b c)) ∧ Below w.heap.size w w' := by
  have heq := eq_view
  unfold vw
  go_enter Try.func35, Try.ntmps35
  go_wp2_with fail
  refine (minus_r a d ha hd b c hb hc _).mono ?_
  rintro e w2 ⟨rfl, hb2⟩
  have HB2 := Lib.hid ((bal (bal (Below.refl _ _) (Nat.le_refl _) _) (Nat.le_refl _) _).trans (hb2.mono (by simp <;> omega))); clear hb2
  unfold vw
  go_wp2
  go_ret
  refine ⟨ret_bool ?_, HB2.out⟩
  unfold withinV
  rw [← minus_zero a b ha hb, ← minus_zero d c hd hc]
  have h : ∀ n : Nat, ((n : Int) == 0) = (n == 0) := fun n => by rw [Bool.eq_iff_iff]; simp
  rw [h, h]
/-- the set of a name -/
def namedF (n : Int) : Option (Nat × Nat) := if 0 ≤ n ∧ n < 4096 then some (n.toNat / 64, n.toNat % 64) else none
/-- a set and the error's number, whichever way it ends -/
def gv (o : Option (Nat × Nat)) : Nat × Nat := o.getD (0, 0)
def ge (o : Option (Nat × Nat)) : Int := if o.isSome then 0 else 41
def RetV (w : World) (o : Option (Nat × Nat)) (e : Ending) (w' : World) : Prop := e = .returned (.tuple #[vw (gv o).1 (gv o).2, .int .i64 (ge o)]) ∧ Below w.heap.size w w'

end Go.Proofs.Ytofjdfnoibfdfaa
