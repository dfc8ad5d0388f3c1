/- What the document's Of of layer 4 answers: a contract by a walk. -/
import Derived.Test.YtofjdfnoibfdfaaChgN
namespace Go.Proofs.Ytofjdfnoibfdfaa
open Go.RowKit
open Chg

def okN (z : Int) : Bool := decide (0 ≤ z ∧ z ≤ 5)
def hasN (l : List Int) (i : Nat) : Bool := l.any fun z => z == (i : Int)
def ofF (adds dels : List Int) : Option (Nat × Nat) := if adds.all okN && dels.all okN then some (setF (hasN adds), setF (hasN dels)) else none
theorem hasN_take (l : List Int) (k m : Nat) (h : l[k]? = some (m : Int)) (i : Nat) : (if i = m then true else hasN (l.take k) i) = hasN (l.take (k + 1)) i := by
  unfold hasN
  rw [List.take_add_one, h, List.any_append]
  by_cases hi : i = m
  · subst hi; simp
  · rw [if_neg hi]
    have : ((m : Int) == (i : Int)) = false := by rw [beq_eq_false_iff_ne]; omega
    simp [this]
theorem ofF_bad_adds {adds dels : List Int} {k : Nat} {z : Int} (h : adds[k]? = some z) (hz : okN z = false) : ofF adds dels = none := by
  unfold ofF
  have : adds.all okN = false := by
    rw [List.all_eq_false]
    exact ⟨z, List.mem_of_getElem? h, by rw [hz]; simp⟩
  rw [this]
  rfl
theorem ofF_bad_dels {adds dels : List Int} {k : Nat} {z : Int} (h : dels[k]? = some z) (hz : okN z = false) : ofF adds dels = none := by
  unfold ofF
  have : dels.all okN = false := by
    rw [List.all_eq_false]
    exact ⟨z, List.mem_of_getElem? h, by rw [hz]; simp⟩
  rw [this, Bool.and_false]
  rfl
theorem all_take_succ (l : List Int) (k : Nat) (z : Int) (h : l[k]? = some z) (hz : okN z = true) (ha : (l.take k).all okN = true) : (l.take (k + 1)).all okN = true := by
  rw [List.take_add_one, h, List.all_append, ha]
  simp [hz]

end Go.Proofs.Ytofjdfnoibfdfaa
