/- What the document's Join of layer 4 answers: a contract by a walk. -/
import Derived.Test.YtofjdfnoibfdfaaChgO
namespace Go.Proofs.Ytofjdfnoibfdfaa
open Go.RowKit
open Chg

/-- the address A leads to these views, two cells each, in a block below B -/
def Rv (w : World) (B : Nat) (A : Option Addr) (vs : List (Nat × Nat)) : Prop :=
  0 < vs.length → ∃ b o, A = some ⟨b, o, none⟩ ∧ b < B ∧ ∀ j v, vs[j]? = some v → w.cell? ⟨b, o + j * 2, none⟩ = some (.int .i64 (v.1 : Int)) ∧ w.cell? ⟨b, o + j * 2 + 1, none⟩ = some (.int .i64 (v.2 : Int))
def anyA (vs : List (Nat × Nat)) (i : Nat) : Bool := vs.any fun v => v.1.testBit i
def anyD (vs : List (Nat × Nat)) (i : Nat) : Bool := vs.any fun v => v.2.testBit i
def joinF (vs : List (Nat × Nat)) : Nat × Nat := (setF (anyA vs), setF (anyD vs))
theorem anyA_take (vs : List (Nat × Nat)) (k : Nat) (v : Nat × Nat) (h : vs[k]? = some v) (i : Nat) : (anyA (vs.take k) i || v.1.testBit i) = anyA (vs.take (k + 1)) i := by
  unfold anyA
  rw [List.take_add_one, h, List.any_append]
  simp
theorem anyD_take (vs : List (Nat × Nat)) (k : Nat) (v : Nat × Nat) (h : vs[k]? = some v) (i : Nat) : (anyD (vs.take k) i || v.2.testBit i) = anyD (vs.take (k + 1)) i := by
  unfold anyD
  rw [List.take_add_one, h, List.any_append]
  simp
theorem or_step (f x : Nat → Bool) (j : Nat) (v : Bool) (hv : v = (f j || x j)) (i : Nat) : (if i = j then v else f i || (decide (i < j) && x i)) = (f i || (decide (i < j + 1) && x i)) := by
  by_cases hi : i = j
  · subst hi; rw [if_pos rfl, hv]; simp
  · rw [if_neg hi, show decide (i < j) = decide (i < j + 1) from decide_eq_decide.2 (by omega)]

end Go.Proofs.Ytofjdfnoibfdfaa
