/- Layer 5, plain: members and quorums of six nodes (no program here). -/
import Derived.Test.YtofjdfnoibfdfaaChgP
namespace Vw
open Chg

def inF (a d k : Nat) : Bool := a.testBit k && !d.testBit k
/-- any number as a node -/
def inN (a d : Nat) (n : Int) : Bool := decide (0 ≤ n ∧ n ≤ 5) && inF a d n.toNat
/-- the first k nodes that are members -/
def memK (a d : Nat) : Nat → List Int
  | 0 => []
  | k + 1 => memK a d k ++ if inF a d k then [(k : Int)] else []
def members (a d : Nat) : List Int := memK a d 6
theorem memK_len (a d k : Nat) : (memK a d k).length ≤ k := by
  induction k with
  | zero => exact Nat.le_refl _
  | succ k ih => unfold memK; split <;> simp <;> omega
theorem memK_mem (a d k : Nat) (z : Int) : z ∈ memK a d k ↔ ∃ i : Nat, i < k ∧ z = (i : Int) ∧ inF a d i = true := by
  induction k with
  | zero => simp [memK]
  | succ k ih =>
    unfold memK
    rw [List.mem_append, ih]
    constructor
    · rintro (⟨i, hi, rfl, h⟩ | h)
      · exact ⟨i, by omega, rfl, h⟩
      · split at h
        · rename_i hk
          rw [List.mem_singleton] at h
          exact ⟨k, by omega, h, hk⟩
        · cases h
    · rintro ⟨i, hi, rfl, h⟩
      by_cases hk : i = k
      · subst hk; right; rw [if_pos h]; simp
      · left; exact ⟨i, by omega, rfl, h⟩
/-- how many of a list are in another one, and how many are not -/
def withL (who : List Int) (l : List Int) : Nat := (l.filter fun m => who.contains m).length
def withoutL (who : List Int) (l : List Int) : Nat := (l.filter fun m => !who.contains m).length
def enough (a d : Nat) (who : List Int) : Bool := decide (withoutL who (members a d) < withL who (members a d))
def size2 (v : Nat × Nat) : Nat := cnt v.1 + cnt v.2
def name2 (v : Nat × Nat) : Nat := 64 * v.1 + v.2
def less (u v : Nat × Nat) : Bool := if size2 u = size2 v then decide (name2 u < name2 v) else decide (size2 u < size2 v)
def within2 (u v : Nat × Nat) : Bool := within u.1 v.1 && within u.2 v.2
def alike (l : List (Nat × Nat)) : Bool := l.all fun a => l.all fun b => within2 a b || within2 b a
/-- the last one in that order -/
def topStep (best v : Nat × Nat) : Nat × Nat := if less best v then v else best
def top : List (Nat × Nat) → Nat × Nat
  | [] => (0, 0)
  | v :: l => l.foldl topStep v
theorem top_take (l : List (Nat × Nat)) (k : Nat) (v : Nat × Nat) (hk : 0 < k) (h : l[k]? = some v) : top (l.take (k + 1)) = topStep (top (l.take k)) v := by
  cases l with
  | nil => simp at h
  | cons x r =>
    obtain ⟨j, rfl⟩ : ∃ j, k = j + 1 := ⟨k - 1, by omega⟩
    rw [List.getElem?_cons_succ] at h
    rw [List.take_succ_cons, List.take_succ_cons]
    show List.foldl topStep x (r.take (j + 1)) = topStep (List.foldl topStep x (r.take j)) v
    rw [List.take_add_one, h, List.foldl_append]
    rfl
end Vw
