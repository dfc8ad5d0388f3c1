/- Layer 4, plain: sets of six nodes as numbers (no program here). -/
namespace Chg

/-- the set of the nodes for which f holds -/
def setF (f : Nat → Bool) : Nat := (if f 0 then 1 else 0) + (if f 1 then 2 else 0) + (if f 2 then 4 else 0) + (if f 3 then 8 else 0) + (if f 4 then 16 else 0) + (if f 5 then 32 else 0)
theorem setF_lt (f : Nat → Bool) : setF f < 64 := by
  unfold setF
  cases f 0 <;> cases f 1 <;> cases f 2 <;> cases f 3 <;> cases f 4 <;> cases f 5 <;> decide
/-- how many nodes -/
def cnt (n : Nat) : Nat := (if n.testBit 0 then 1 else 0) + (if n.testBit 1 then 1 else 0) + (if n.testBit 2 then 1 else 0) + (if n.testBit 3 then 1 else 0) + (if n.testBit 4 then 1 else 0) + (if n.testBit 5 then 1 else 0)
def minus (a b : Nat) : Nat := setF fun k => a.testBit k && !b.testBit k
def within (a b : Nat) : Bool := a ||| b == b
theorem setF_bit (f : Nat → Bool) (k : Nat) (hk : k < 6) : (setF f).testBit k = f k := by
  unfold setF
  obtain rfl | rfl | rfl | rfl | rfl | rfl : k = 0 ∨ k = 1 ∨ k = 2 ∨ k = 3 ∨ k = 4 ∨ k = 5 := by omega
  all_goals (cases f 0 <;> cases f 1 <;> cases f 2 <;> cases f 3 <;> cases f 4 <;> cases f 5 <;> decide)
theorem setF_congr {f g : Nat → Bool} (h : ∀ k, k < 6 → f k = g k) : setF f = setF g := by
  unfold setF
  rw [h 0 (by omega), h 1 (by omega), h 2 (by omega), h 3 (by omega), h 4 (by omega), h 5 (by omega)]
theorem all64 {p : Nat → Bool} (h : ∀ a : Fin 64, p a.val = true) (a : Nat) (ha : a < 64) : p a = true := h ⟨a, ha⟩
theorem setF_self (a : Nat) (ha : a < 64) : setF a.testBit = a := by
  have h : ∀ a : Fin 64, (setF a.val.testBit == a.val) = true := by decide +kernel
  exact eq_of_beq (h ⟨a, ha⟩)
theorem ext64 {a b : Nat} (ha : a < 64) (hb : b < 64) (h : ∀ k, k < 6 → a.testBit k = b.testBit k) : a = b := by
  rw [← setF_self a ha, ← setF_self b hb]
  exact setF_congr h
theorem or_lt {a b : Nat} (ha : a < 64) (hb : b < 64) : a ||| b < 64 := Nat.or_lt_two_pow (n := 6) ha hb
theorem setF_or (a b : Nat) (ha : a < 64) (hb : b < 64) : setF (fun k => a.testBit k || b.testBit k) = a ||| b := by
  apply ext64 (setF_lt _) (or_lt ha hb)
  intro k hk
  rw [setF_bit _ k hk, Nat.testBit_or]
theorem minus_lt (a b : Nat) : minus a b < 64 := setF_lt _
theorem minus_bit (a b k : Nat) (hk : k < 6) : (minus a b).testBit k = (a.testBit k && !b.testBit k) := setF_bit _ k hk
theorem minus_zero (a b : Nat) (ha : a < 64) (hb : b < 64) : (minus a b == 0) = within a b := by
  have h : ∀ a b : Fin 64, ((minus a.val b.val == 0) == within a.val b.val) = true := by decide +kernel
  exact eq_of_beq (h ⟨a, ha⟩ ⟨b, hb⟩)
theorem minus_or (a b : Nat) (ha : a < 64) (hb : b < 64) : minus a b ||| b = a ||| b := by
  have h : ∀ a b : Fin 64, ((minus a.val b.val ||| b.val) == (a.val ||| b.val)) = true := by decide +kernel
  exact eq_of_beq (h ⟨a, ha⟩ ⟨b, hb⟩)
theorem minus_minus (a b : Nat) (ha : a < 64) (hb : b < 64) : minus (minus a b) b = minus a b := by
  have h : ∀ a b : Fin 64, (minus (minus a.val b.val) b.val == minus a.val b.val) = true := by decide +kernel
  exact eq_of_beq (h ⟨a, ha⟩ ⟨b, hb⟩)
theorem cnt_or (a b : Nat) (ha : a < 64) (hb : b < 64) : cnt (a ||| b) = cnt b + cnt (minus a b) := by
  have h : ∀ a b : Fin 64, (cnt (a.val ||| b.val) == cnt b.val + cnt (minus a.val b.val)) = true := by decide +kernel
  exact eq_of_beq (h ⟨a, ha⟩ ⟨b, hb⟩)
theorem cnt_within (a b : Nat) (ha : a < 64) (hb : b < 64) (h : within a b = true) : cnt a ≤ cnt b := by
  have h2 : ∀ a b : Fin 64, (!(within a.val b.val) || decide (cnt a.val ≤ cnt b.val)) = true := by decide +kernel
  have := h2 ⟨a, ha⟩ ⟨b, hb⟩
  simp only [h, Bool.not_true, Bool.false_or, decide_eq_true_iff] at this
  exact this
theorem within_both (a b : Nat) (ha : a < 64) (hb : b < 64) : (within a b && within b a) = (a == b) := by
  have h : ∀ a b : Fin 64, ((within a.val b.val && within b.val a.val) == (a.val == b.val)) = true := by decide +kernel
  exact eq_of_beq (h ⟨a, ha⟩ ⟨b, hb⟩)
theorem within_iff (a b : Nat) : within a b = true ↔ a ||| b = b := by unfold within; simp
theorem cnt_le (a : Nat) : cnt a ≤ 6 := by
  unfold cnt
  split <;> split <;> split <;> split <;> split <;> split <;> decide
/-- the set of a list of nodes: none if one isn't from 0 to 5 -/
def setL (l : List Int) : Option Nat := if l.all (fun n => decide (0 ≤ n ∧ n ≤ 5)) then some (setF fun k => l.any fun n => n == (k : Int)) else none
end Chg
