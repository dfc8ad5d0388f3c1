/- Plain facts on the words of float64: which are not a number, and that the order of the rest is that of a whole number read off the word. No Go text is walked here. -/
import Ieee.Arith
import Derived.Laws.BitsAllLaws
namespace Go.Proofs.Ytjcpdhekilkhgaa
namespace Flt
open Ieee

theorem cmp_congr {a b c d : Int} (h1 : a < b ↔ c < d) (h2 : a = b ↔ c = d) : compare a b = compare c d := by
  simp only [compare, compareOfLessAndEq]
  by_cases h : a < b
  · rw [if_pos h, if_pos (h1.1 h)]
  · rw [if_neg h, if_neg (fun x => h (h1.2 x))]
    by_cases g : a = b
    · rw [if_pos g, if_pos (h2.1 g)]
    · rw [if_neg g, if_neg (fun x => g (h2.2 x))]

/-- The magnitude of a rung, in units of the least place. -/
def val (r : Nat) : Nat := if r < 4503599627370496 then r else (4503599627370496 + r % 4503599627370496) * 2 ^ (r / 4503599627370496 - 1)

theorem val_lt (r : Nat) : val r < 4503599627370496 * 2 ^ (r / 4503599627370496) := by
  unfold val
  split
  · rename_i h
    have : r / 4503599627370496 = 0 := by omega
    rw [this]; omega
  · rename_i h
    obtain ⟨q, hq⟩ : ∃ q, r / 4503599627370496 = q + 1 := ⟨r / 4503599627370496 - 1, by omega⟩
    rw [hq, Nat.pow_succ]
    have hm : r % 4503599627370496 < 4503599627370496 := by omega
    have hp : 0 < 2 ^ q := Nat.two_pow_pos _
    simp only [Nat.add_sub_cancel]
    calc _ < (2 * 4503599627370496) * 2 ^ q := Nat.mul_lt_mul_of_pos_right (by omega) hp
      _ = 4503599627370496 * (2 ^ q * 2) := by rw [Nat.mul_comm 2, Nat.mul_assoc, Nat.mul_comm 2]

theorem le_val (r q : Nat) (h : q + 1 ≤ r / 4503599627370496) : 4503599627370496 * 2 ^ q ≤ val r := by
  unfold val
  rw [if_neg (by omega)]
  refine Nat.mul_le_mul (by omega) (Nat.pow_le_pow_right (by omega) (by omega))

theorem val_mono {r s : Nat} (h : r < s) : val r < val s := by
  by_cases hq : r / 4503599627370496 < s / 4503599627370496
  · exact Nat.lt_of_lt_of_le (val_lt r) (le_val s _ hq)
  · have e : r / 4503599627370496 = s / 4503599627370496 := by omega
    unfold val
    by_cases h0 : r < 4503599627370496
    · rw [if_pos h0, if_pos (by omega)]; exact h
    · rw [if_neg h0, if_neg (by omega), e]
      exact Nat.mul_lt_mul_of_pos_right (by omega) (Nat.two_pow_pos _)

theorem val_lt_iff (r s : Nat) : val r < val s ↔ r < s := by
  constructor
  · intro h
    by_cases hc : r < s
    · exact hc
    · by_cases he : r = s
      · subst he; omega
      · have := val_mono (show s < r by omega); omega
  · exact val_mono

theorem val_inj_iff (r s : Nat) : val r = val s ↔ r = s := by
  constructor
  · intro h
    by_cases hc : r < s
    · have := val_mono hc; omega
    · by_cases he : r = s
      · exact he
      · have := val_mono (show s < r by omega); omega
  · intro h; rw [h]

theorem val_zero : val 0 = 0 := by simp [val]

def sgd (s : Bool) (v : Nat) : Int := if s then -(v : Int) else v

theorem signed_eq (s : Bool) (m u : Nat) : signed s m u = sgd s (m * 2 ^ u) := by
  simp [signed, sgd, Nat.shiftLeft_eq]

theorem sgd_mul (s : Bool) (v c : Nat) : sgd s (v * c) = sgd s v * (c : Int) := by
  cases s <;> simp [sgd, Int.neg_mul]

theorem cmp_mul (a b : Int) (c : Nat) (h : 0 < c) : compare (a * (c : Int)) (b * (c : Int)) = compare a b := by
  refine cmp_congr ?_ ?_
  · exact Int.mul_lt_mul_right (by omega)
  · exact Int.mul_eq_mul_right_iff (by omega)

theorem order_num (s t : Bool) (m n k l : Nat) (L : Int) :
    Datum.order (.number s m (L + (k : Nat))) (.number t n (L + (l : Nat))) = some (compare (sgd s (m * 2 ^ k)) (sgd t (n * 2 ^ l))) := by
  simp only [Datum.order, signed_eq]
  congr 1
  by_cases h : k ≤ l
  · have e1 : (L + (k : Int) - min (L + (k : Int)) (L + (l : Int))).toNat = 0 := by omega
    have e2 : (L + (l : Int) - min (L + (k : Int)) (L + (l : Int))).toNat = l - k := by omega
    rw [e1, e2, ← cmp_mul _ _ (2 ^ k) (Nat.two_pow_pos _), ← sgd_mul, ← sgd_mul]
    congr 2
    · simp
    · rw [Nat.mul_assoc, ← Nat.pow_add]; congr 2; omega
  · have e1 : (L + (k : Int) - min (L + (k : Int)) (L + (l : Int))).toNat = k - l := by omega
    have e2 : (L + (l : Int) - min (L + (k : Int)) (L + (l : Int))).toNat = 0 := by omega
    rw [e1, e2, ← cmp_mul _ _ (2 ^ l) (Nat.two_pow_pos _), ← sgd_mul, ← sgd_mul]
    congr 2
    · rw [Nat.mul_assoc, ← Nat.pow_add]; congr 2; omega
    · simp

/-- The word read as a whole number: its rung, with its sign. -/
def key (x : Nat) : Int := sgd (x / 9223372036854775808 % 2 == 1) (x % 9223372036854775808)

def isNan (x : Nat) : Bool := decide (9218868437227405312 < x % 9223372036854775808)

theorem read_eq (x : Nat) : double.read x =
    if x % 9223372036854775808 < 4503599627370496 then .number (x / 9223372036854775808 % 2 == 1) (x % 9223372036854775808) (-1074)
    else if x % 9223372036854775808 < 9218868437227405312 then
      .number (x / 9223372036854775808 % 2 == 1) (4503599627370496 + x % 9223372036854775808 % 4503599627370496) (-1074 + (x % 9223372036854775808 / 4503599627370496 - 1 : Nat))
    else if x % 9223372036854775808 = 9218868437227405312 then .infinity (x / 9223372036854775808 % 2 == 1)
    else .nan (x / 9223372036854775808 % 2 == 1) (x % 9223372036854775808 - 9218868437227405312) := by
  have h1 : double.signWeight = 9223372036854775808 := by decide
  have h2 : double.binade = 4503599627370496 := by decide
  have h3 : double.infRung = 9218868437227405312 := by decide
  have h4 : double.leastPlace = -1074 := by decide
  simp only [Format.read, h1, h2, h3, h4]

theorem read_num (x : Nat) (h : x % 9223372036854775808 < 9218868437227405312) :
    ∃ m k, double.read x = .number (x / 9223372036854775808 % 2 == 1) m (-1074 + (k : Nat)) ∧ m * 2 ^ k = val (x % 9223372036854775808) := by
  rw [read_eq]
  by_cases h0 : x % 9223372036854775808 < 4503599627370496
  · rw [if_pos h0]
    exact ⟨x % 9223372036854775808, 0, by simp, by simp [val, h0]⟩
  · rw [if_neg h0, if_pos h]
    exact ⟨_, _, rfl, by simp only [val]; rw [if_neg h0]⟩

theorem read_inf (x : Nat) (h : x % 9223372036854775808 = 9218868437227405312) : double.read x = .infinity (x / 9223372036854775808 % 2 == 1) := by
  rw [read_eq, if_neg (by omega), if_neg (by omega), if_pos h]

theorem read_nan (x : Nat) (h : isNan x = true) : ∃ f, double.read x = .nan (x / 9223372036854775808 % 2 == 1) f := by
  have h := of_decide_eq_true h
  rw [read_eq, if_neg (by omega), if_neg (by omega), if_neg (by omega)]
  exact ⟨_, rfl⟩

theorem sgd_cmp (s t : Bool) (m n : Nat) : compare (sgd s (val m)) (sgd t (val n)) = compare (sgd s m) (sgd t n) := by
  have a1 := val_lt_iff m n
  have a2 := val_lt_iff n m
  have a3 := val_inj_iff m n
  have b1 := val_lt_iff 0 m
  have b2 := val_lt_iff 0 n
  rw [val_zero] at b1 b2
  refine cmp_congr ?_ ?_ <;> cases s <;> cases t <;> simp only [sgd] <;> (simp only [Bool.false_eq_true, if_true, if_false]) <;> omega

theorem order_eq (x y : Nat) (nx : isNan x = false) (ny : isNan y = false) : double.order x y = some (compare (key x) (key y)) := by
  have hx := of_decide_eq_false nx
  have hy := of_decide_eq_false ny
  have hsx : ∀ s : Bool, s = (x / 9223372036854775808 % 2 == 1) → key x = sgd s (x % 9223372036854775808) := fun s h => by rw [h]; rfl
  have hsy : ∀ s : Bool, s = (y / 9223372036854775808 % 2 == 1) → key y = sgd s (y % 9223372036854775808) := fun s h => by rw [h]; rfl
  unfold Format.order
  by_cases fx : x % 9223372036854775808 < 9218868437227405312
  · obtain ⟨m, k, hr, hv⟩ := read_num x fx
    by_cases fy : y % 9223372036854775808 < 9218868437227405312
    · obtain ⟨n, l, hr', hv'⟩ := read_num y fy
      rw [hr, hr', order_num, hv, hv', sgd_cmp]; rfl
    · rw [hr, read_inf y (by omega)]
      simp only [Datum.order]
      rw [hsx _ rfl, hsy _ rfl]
      generalize (x / 9223372036854775808 % 2 == 1) = s
      generalize (y / 9223372036854775808 % 2 == 1) = t
      congr 1
      simp only [compare, compareOfLessAndEq]
      cases s <;> cases t <;> simp only [sgd] <;> (simp only [Bool.false_eq_true, if_true, if_false]) <;> (first | rw [if_pos (by omega)] | rw [if_neg (by omega), if_neg (by omega)])
  · by_cases fy : y % 9223372036854775808 < 9218868437227405312
    · obtain ⟨n, l, hr', hv'⟩ := read_num y fy
      rw [hr', read_inf x (by omega)]
      simp only [Datum.order]
      rw [hsx _ rfl, hsy _ rfl]
      generalize (x / 9223372036854775808 % 2 == 1) = s
      generalize (y / 9223372036854775808 % 2 == 1) = t
      congr 1
      simp only [compare, compareOfLessAndEq]
      cases s <;> cases t <;> simp only [sgd] <;> (simp only [Bool.false_eq_true, if_true, if_false]) <;> (first | rw [if_pos (by omega)] | rw [if_neg (by omega), if_neg (by omega)])
    · rw [read_inf x (by omega), read_inf y (by omega)]
      simp only [Datum.order]
      rw [hsx _ rfl, hsy _ rfl]
      have ex : x % 9223372036854775808 = 9218868437227405312 := by omega
      have ey : y % 9223372036854775808 = 9218868437227405312 := by omega
      rw [ex, ey]
      generalize (x / 9223372036854775808 % 2 == 1) = s
      generalize (y / 9223372036854775808 % 2 == 1) = t
      cases s <;> cases t <;> decide

theorem order_nan_left (x y : Nat) (h : isNan x = true) : double.order x y = none := by
  obtain ⟨f, hf⟩ := read_nan x h
  simp [Format.order, hf, Datum.order]

theorem order_nan_right (x y : Nat) (h : isNan y = true) : double.order x y = none := by
  obtain ⟨f, hf⟩ := read_nan y h
  unfold Format.order
  rw [hf]
  cases double.read x <;> simp [Datum.order]

theorem key_lo (x : Nat) (h : x < 9223372036854775808) : key x = x := by
  have h1 : x / 9223372036854775808 = 0 := by omega
  have h2 : x % 9223372036854775808 = x := by omega
  simp [key, h1, h2, sgd]

theorem key_hi (x : Nat) (h : ¬ x < 9223372036854775808) (h' : x < 18446744073709551616) : key x = 9223372036854775808 - (x : Int) := by
  have h1 : x / 9223372036854775808 = 1 := by omega
  have h2 : x % 9223372036854775808 = x - 9223372036854775808 := by omega
  simp only [key, h1, h2, sgd]
  simp
  omega

end Flt
end Go.Proofs.Ytjcpdhekilkhgaa
