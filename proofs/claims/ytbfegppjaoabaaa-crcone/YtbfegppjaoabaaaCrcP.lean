/- Layer 3, plain: the sum of bytes bit by bit, and which turned bits it finds (no program here). -/
namespace Crc

/-- the polynomial, turned about -/
def poly : BitVec 32 := 0xEDB88320#32
/-- one bit more -/
def step (c : BitVec 32) (b : Bool) : BitVec 32 := if (c.getLsbD 0 ^^ b) then (c >>> 1) ^^^ poly else c >>> 1
def run (c : BitVec 32) (l : List Bool) : BitVec 32 := l.foldl step c
/-- a byte's bits, the lowest first -/
def bits8 (x : UInt8) : List Bool := (List.range 8).map fun k => x.toNat.testBit k
def bitsL (bs : List UInt8) : List Bool := bs.flatMap bits8
/-- the sum -/
def sum (bs : List UInt8) : BitVec 32 := ~~~ run (BitVec.allOnes 32) (bitsL bs)

theorem run_append (c : BitVec 32) (l m : List Bool) : run c (l ++ m) = run (run c l) m := by simp [run]
theorem run_cons (c : BitVec 32) (b : Bool) (l : List Bool) : run c (b :: l) = run (step c b) l := rfl
theorem bitsL_append (a b : List UInt8) : bitsL (a ++ b) = bitsL a ++ bitsL b := by simp [bitsL]
theorem bits8_len (x : UInt8) : (bits8 x).length = 8 := by simp [bits8]
theorem bitsL_len (bs : List UInt8) : (bitsL bs).length = 8 * bs.length := by
  induction bs with
  | nil => rfl
  | cons x l ih => rw [show bitsL (x :: l) = bits8 x ++ bitsL l from rfl, List.length_append, bits8_len, ih, List.length_cons]; omega

theorem byte_inj {x y : UInt8} (h : bits8 x = bits8 y) : x = y := by
  apply UInt8.toNat_inj.1
  apply Nat.eq_of_testBit_eq
  intro i
  by_cases hi : i < 8
  · have := congrArg (fun l => l[i]?) h
    simpa [bits8, hi] using this
  · have hx : x.toNat < 2 ^ i := Nat.lt_of_lt_of_le (UInt8.toNat_lt x) (Nat.pow_le_pow_right (by omega) (show 8 ≤ i by omega))
    have hy : y.toNat < 2 ^ i := Nat.lt_of_lt_of_le (UInt8.toNat_lt y) (Nat.pow_le_pow_right (by omega) (show 8 ≤ i by omega))
    rw [Nat.testBit_lt_two_pow hx, Nat.testBit_lt_two_pow hy]
theorem bitsL_inj : ∀ {a b : List UInt8}, a.length = b.length → bitsL a = bitsL b → a = b
  | [], [], _, _ => rfl
  | x :: l, y :: m, h, e => by
    rw [show bitsL (x :: l) = bits8 x ++ bitsL l from rfl, show bitsL (y :: m) = bits8 y ++ bitsL m from rfl] at e
    have := List.append_inj e (by rw [bits8_len, bits8_len])
    rw [byte_inj this.1, bitsL_inj (by simpa using h) this.2]
  | [], _ :: _, h, _ => by simp at h
  | _ :: _, [], h, _ => by simp at h

/-- one bit more is linear -/
theorem step_xor (c d : BitVec 32) (a b : Bool) : step (c ^^^ d) (a ^^ b) = step c a ^^^ step d b := by
  have h : (c ^^^ d) >>> 1 = (c >>> 1) ^^^ (d >>> 1) := by ext i hi; simp
  have e : ((c ^^^ d).getLsbD 0 ^^ (a ^^ b)) = ((c.getLsbD 0 ^^ a) ^^ (d.getLsbD 0 ^^ b)) := by
    rw [BitVec.getLsbD_xor]
    cases c.getLsbD 0 <;> cases d.getLsbD 0 <;> cases a <;> cases b <;> rfl
  unfold step
  rw [e, h]
  cases (c.getLsbD 0 ^^ a) <;> cases (d.getLsbD 0 ^^ b)
  · simp
  · simp [BitVec.xor_assoc]
  · simp only [Bool.xor_false, if_true, Bool.false_eq_true, if_false]
    rw [BitVec.xor_assoc, BitVec.xor_assoc, BitVec.xor_comm poly]
  · simp only [Bool.xor_self, if_true, Bool.false_eq_true, if_false]
    rw [BitVec.xor_assoc (c >>> 1), ← BitVec.xor_assoc poly, BitVec.xor_comm poly (d >>> 1), BitVec.xor_assoc (d >>> 1), BitVec.xor_self, BitVec.xor_zero]
theorem run_xor : ∀ (l m : List Bool) (c d : BitVec 32), l.length = m.length → run (c ^^^ d) (List.zipWith xor l m) = run c l ^^^ run d m
  | [], [], _, _, _ => rfl
  | a :: l, b :: m, c, d, h => by
    rw [List.zipWith_cons_cons, run_cons, run_cons, run_cons, step_xor]
    exact run_xor l m _ _ (by simpa using h)
  | [], _ :: _, _, _, h => by simp at h
  | _ :: _, [], _, _, h => by simp at h

/-- a 0 more -/
def zero (c : BitVec 32) : BitVec 32 := step c false
def zeros : Nat → BitVec 32 → BitVec 32
  | 0, c => c
  | k + 1, c => zeros k (zero c)
theorem zero_xor (c d : BitVec 32) : zero (c ^^^ d) = zero c ^^^ zero d := step_xor c d false false
theorem zeros_xor (k : Nat) : ∀ c d : BitVec 32, zeros k (c ^^^ d) = zeros k c ^^^ zeros k d := by
  induction k with
  | zero => intros; rfl
  | succ k ih => intro c d; show zeros k (zero (c ^^^ d)) = _; rw [zero_xor, ih]; rfl
theorem zero_eq {c : BitVec 32} (h : zero c = 0#32) : c = 0#32 := by
  unfold zero step at h
  simp only [Bool.xor_false] at h
  cases hb : c.getLsbD 0 with
  | true =>
    rw [hb, if_pos rfl] at h
    have := congrArg (fun v : BitVec 32 => v.getLsbD 31) h
    simp [poly] at this
  | false =>
    rw [hb] at h
    simp only [Bool.false_eq_true, if_false] at h
    ext i hi
    cases i with
    | zero => simpa [BitVec.getLsbD_eq_getElem] using hb
    | succ i =>
      have := congrArg (fun v : BitVec 32 => v.getLsbD i) h
      simp only [BitVec.getLsbD_ushiftRight, BitVec.getLsbD_zero] at this
      rw [Nat.add_comm, BitVec.getLsbD_eq_getElem hi] at this
      simpa using this
theorem zeros_eq (k : Nat) : ∀ {c : BitVec 32}, zeros k c = 0#32 → c = 0#32 := by
  induction k with
  | zero => intro c h; exact h
  | succ k ih => intro c h; exact zero_eq (ih h)
theorem xor_eq_zero {c d : BitVec 32} (h : c ^^^ d = 0#32) : c = d := by
  have : c ^^^ d ^^^ d = 0#32 ^^^ d := by rw [h]
  rw [BitVec.xor_assoc, BitVec.xor_self, BitVec.xor_zero, BitVec.zero_xor] at this
  exact this
theorem zeros_inj {k : Nat} {c d : BitVec 32} (h : zeros k c = zeros k d) : c = d := by
  apply xor_eq_zero
  apply zeros_eq k
  rw [zeros_xor, h, BitVec.xor_self]
theorem zeros_zero (k : Nat) : zeros k 0#32 = 0#32 := by
  induction k with
  | zero => rfl
  | succ k ih => exact ih
theorem run_false (k : Nat) : ∀ c, run c (List.replicate k false) = zeros k c := by
  induction k with
  | zero => intro c; rfl
  | succ k ih => intro c; rw [List.replicate_succ, run_cons]; exact ih _

/-- so many bits, as a word -/
def word : List Bool → BitVec 32
  | [] => 0#32
  | b :: l => (word l <<< 1) ^^^ (if b then 1#32 else 0#32)
theorem word_bit : ∀ (l : List Bool) (i : Nat), i < 32 → (word l).getLsbD i = l.getD i false
  | [], i, _ => by simp [word]
  | b :: l, 0, _ => by cases b <;> simp [word]
  | b :: l, i + 1, h => by
    have ih := word_bit l i (by omega)
    have h1 : (1#32).getLsbD (i + 1) = false := by simp [BitVec.getLsbD_one]
    unfold word
    rw [BitVec.getLsbD_xor, BitVec.getLsbD_shiftLeft]
    have h2 : (if b = true then 1#32 else 0#32).getLsbD (i + 1) = false := by cases b <;> simp [BitVec.getLsbD_one]
    rw [h2]
    simp [h, ih]
theorem step_bit (c : BitVec 32) (b : Bool) : step c b = zero (c ^^^ (if b then 1#32 else 0#32)) := by
  have := step_xor c (if b then 1#32 else 0#32) b b
  unfold zero
  cases b
  · simp
  · rw [← Bool.xor_self true, step_xor]
    have e : step (1#32) true = 0#32 := by decide
    simp only [if_true]
    rw [e, BitVec.xor_zero]
theorem zero_shift (x : BitVec 32) (h : x.getLsbD 31 = false) : zero (x <<< 1) = x := by
  unfold zero step
  have h0 : (x <<< 1).getLsbD 0 = false := by simp
  rw [h0]
  simp only [Bool.xor_self, Bool.false_eq_true, if_false]
  ext i hi
  by_cases h31 : i = 31
  · subst h31
    simp only [BitVec.getElem_ushiftRight, BitVec.getLsbD_shiftLeft]
    rw [← BitVec.getLsbD_eq_getElem (by omega : 31 < 32), h]
    simp
  · simp only [BitVec.getElem_ushiftRight, BitVec.getLsbD_shiftLeft]
    rw [← BitVec.getLsbD_eq_getElem hi, decide_eq_true (show 1 + i < 32 by omega)]
    simp
/-- bits within a word: the word, and as many zeros -/
theorem run_word : ∀ (l : List Bool) (c : BitVec 32), l.length ≤ 32 → run c l = zeros l.length (c ^^^ word l)
  | [], c, _ => by simp [run, zeros, word]
  | b :: l, c, h => by
    rw [run_cons, run_word l _ (by simp at h; omega), List.length_cons]
    show zeros l.length (step c b ^^^ word l) = zeros l.length (zero (c ^^^ word (b :: l)))
    congr 1
    rw [show word (b :: l) = (word l <<< 1) ^^^ (if b then 1#32 else 0#32) from rfl, BitVec.xor_comm (word l <<< 1), ← BitVec.xor_assoc, zero_xor, ← step_bit, zero_shift]
    rw [word_bit _ _ (by omega), List.getD_eq_getElem?_getD, List.getElem?_eq_none (by simp at h; omega)]
    rfl
theorem word_zero {l : List Bool} (h : word l = 0#32) : ∀ i, i < 32 → l.getD i false = false := by
  intro i hi
  rw [← word_bit l i hi, h]
  simp

/-- NO BURST IS OVERLOOKED: bits turned within thirty-two side by side leave another state -/
theorem run_burst (l e : List Bool) (c : BitVec 32) (p : Nat) (hl : l.length = e.length) (hw : ∀ i, e.getD i false = true → p ≤ i ∧ i < p + 32) (hr : run c (List.zipWith xor l e) = run c l) : ∀ i, e.getD i false = false := by
  have h0 : run 0#32 e = 0#32 := by
    have := run_xor l e c 0#32 hl
    rw [BitVec.xor_zero, hr] at this
    have h2 : run c l ^^^ run c l = run c l ^^^ (run c l ^^^ run 0#32 e) := by rw [← this]
    rw [BitVec.xor_self, ← BitVec.xor_assoc, BitVec.xor_self, BitVec.zero_xor] at h2
    exact h2.symm
  have hfalse : ∀ i, ¬ (p ≤ i ∧ i < p + 32) → e.getD i false = false := by
    intro i hi
    cases hb : e.getD i false with
    | false => rfl
    | true => exact absurd (hw i hb) hi
  have e1 : e.take p = List.replicate (e.take p).length false := by
    apply List.ext_getElem (by simp)
    intro i h1 h2
    have := hfalse i (by simp at h1; omega)
    simp only [List.length_take] at h1
    rw [List.getD_eq_getElem?_getD, List.getElem?_eq_getElem (by omega)] at this
    simpa using this
  have e3 : (e.drop p).drop 32 = List.replicate ((e.drop p).drop 32).length false := by
    apply List.ext_getElem (by simp)
    intro i h1 h2
    simp only [List.length_drop] at h1
    have := hfalse (p + (32 + i)) (by omega)
    rw [List.getD_eq_getElem?_getD, List.getElem?_eq_getElem (by omega)] at this
    simpa [Nat.add_assoc] using this
  have e0 : e = e.take p ++ ((e.drop p).take 32 ++ (e.drop p).drop 32) := by rw [List.take_append_drop, List.take_append_drop]
  rw [e0, e1, e3, run_append, run_append, run_false, run_false, zeros_zero] at h0
  have h1 := zeros_eq _ h0
  rw [run_word _ _ (by simp; omega)] at h1
  have h2 := zeros_eq _ h1
  rw [BitVec.zero_xor] at h2
  have h3 := word_zero h2
  intro i
  by_cases hi : p ≤ i ∧ i < p + 32
  · have := h3 (i - p) (by omega)
    rw [List.getD_eq_getElem?_getD, List.getElem?_take, if_pos (by omega), List.getElem?_drop, show p + (i - p) = i by omega] at this
    rw [List.getD_eq_getElem?_getD]
    exact this
  · exact hfalse i hi

/-- a word's four bytes, the lowest first -/
def le4 (n : Nat) : List UInt8 := [UInt8.ofNat (n % 256), UInt8.ofNat (n / 256 % 256), UInt8.ofNat (n / 65536 % 256), UInt8.ofNat (n / 16777216 % 256)]
theorem byte_bits (n k : Nat) : bits8 (UInt8.ofNat (n / 2 ^ (8 * k) % 2 ^ 8)) = (List.range 8).map fun j => n.testBit (8 * k + j) := by
  unfold bits8
  apply List.map_congr_left
  intro j hj
  rw [List.mem_range] at hj
  rw [UInt8.toNat_ofNat', Nat.mod_mod, Nat.testBit_mod_two_pow, Nat.testBit_div_two_pow]
  simp [hj, Nat.add_comm]
theorem le4_bits (n : Nat) : bitsL (le4 n) = (List.range 32).map n.testBit := by
  have h0 := byte_bits n 0
  have h1 := byte_bits n 1
  have h2 := byte_bits n 2
  have h3 := byte_bits n 3
  simp only [Nat.mul_zero, Nat.pow_zero, Nat.div_one, Nat.zero_add] at h0
  have e : bitsL (le4 n) = bits8 (UInt8.ofNat (n % 2 ^ 8)) ++ (bits8 (UInt8.ofNat (n / 2 ^ (8 * 1) % 2 ^ 8)) ++ (bits8 (UInt8.ofNat (n / 2 ^ (8 * 2) % 2 ^ 8)) ++ (bits8 (UInt8.ofNat (n / 2 ^ (8 * 3) % 2 ^ 8)) ++ []))) := rfl
  rw [e, h0, h1, h2, h3]
  rfl
theorem word_nat (w : BitVec 32) : word ((List.range 32).map w.toNat.testBit) = w := by
  apply BitVec.eq_of_getLsbD_eq
  intro i hi
  rw [word_bit _ _ hi, List.getD_eq_getElem?_getD, List.getElem?_map, List.getElem?_range hi]
  simp [BitVec.testBit_toNat]
theorem run_le4 (c w : BitVec 32) : run c (bitsL (le4 w.toNat)) = zeros 32 (c ^^^ w) := by
  rw [le4_bits, run_word _ _ (by simp), word_nat]
  simp

/-- the frame of bytes -/
def seal_ (b : List UInt8) : List UInt8 := b ++ le4 (sum b).toNat
/-- what is left behind every frame -/
def rest : BitVec 32 := zeros 32 (BitVec.allOnes 32)
def state (x : List UInt8) : BitVec 32 := run (BitVec.allOnes 32) (bitsL x)
theorem xor_not_self (c : BitVec 32) : c ^^^ ~~~ c = BitVec.allOnes 32 := by
  apply BitVec.eq_of_getLsbD_eq
  intro i hi
  rw [BitVec.getLsbD_xor, BitVec.getLsbD_not, BitVec.getLsbD_allOnes, decide_eq_true hi]
  simp
theorem not_of_xor {c w : BitVec 32} (h : c ^^^ w = BitVec.allOnes 32) : w = ~~~ c := by
  have e : c ^^^ (c ^^^ w) = c ^^^ (c ^^^ ~~~ c) := by rw [h, xor_not_self]
  rw [← BitVec.xor_assoc, ← BitVec.xor_assoc, BitVec.xor_self, BitVec.zero_xor, BitVec.zero_xor] at e
  exact e
theorem state_seal (b : List UInt8) : state (seal_ b) = rest := by
  unfold state seal_ sum
  rw [bitsL_append, run_append, run_le4, xor_not_self]
  rfl
theorem seal_of_state {b : List UInt8} {w : BitVec 32} (h : state (b ++ le4 w.toNat) = rest) : seal_ b = b ++ le4 w.toNat := by
  unfold state at h
  rw [bitsL_append, run_append, run_le4] at h
  have := not_of_xor (zeros_inj h)
  unfold seal_ sum
  rw [← this]
theorem rest_eq : ~~~ rest = 0x2144DF1C#32 := by decide +kernel
theorem le4_of (t : List UInt8) (h : t.length = 4) : ∃ w : BitVec 32, t = le4 w.toNat := by
  match t, h with
  | [a, b, c, d], _ =>
    have ha := UInt8.toNat_lt a
    have hb := UInt8.toNat_lt b
    have hc := UInt8.toNat_lt c
    have hd := UInt8.toNat_lt d
    refine ⟨BitVec.ofNat 32 (a.toNat + 256 * b.toNat + 65536 * c.toNat + 16777216 * d.toNat), ?_⟩
    rw [BitVec.toNat_ofNat, Nat.mod_eq_of_lt (by omega)]
    unfold le4
    rw [show (a.toNat + 256 * b.toNat + 65536 * c.toNat + 16777216 * d.toNat) % 256 = a.toNat by omega, show (a.toNat + 256 * b.toNat + 65536 * c.toNat + 16777216 * d.toNat) / 256 % 256 = b.toNat by omega,
      show (a.toNat + 256 * b.toNat + 65536 * c.toNat + 16777216 * d.toNat) / 65536 % 256 = c.toNat by omega, show (a.toNat + 256 * b.toNat + 65536 * c.toNat + 16777216 * d.toNat) / 16777216 % 256 = d.toNat by omega]
    simp
/-- the bytes of a frame -/
def openF (x : List UInt8) : Option (List UInt8) := if x.length < 4 then none else if seal_ (x.take (x.length - 4)) = x then some (x.take (x.length - 4)) else none
theorem le4_len (n : Nat) : (le4 n).length = 4 := rfl
theorem seal_len (b : List UInt8) : (seal_ b).length = b.length + 4 := by simp [seal_, le4_len]
theorem open_seal (b : List UInt8) : openF (seal_ b) = some b := by
  unfold openF
  rw [seal_len, if_neg (by omega), show b.length + 4 - 4 = b.length by omega]
  have : (seal_ b).take b.length = b := by unfold seal_; exact List.take_left
  rw [this, if_pos rfl]
theorem open_some {x b : List UInt8} (h : openF x = some b) : x = seal_ b := by
  unfold openF at h
  split at h
  · cases h
  · split at h
    · rename_i h1; injection h with h; rw [← h]; exact h1.symm
    · cases h
theorem open_state {x : List UInt8} (h4 : 4 ≤ x.length) (h : state x = rest) : ∃ b, openF x = some b := by
  obtain ⟨w, hw⟩ := le4_of (x.drop (x.length - 4)) (by simp; omega)
  have e : x = x.take (x.length - 4) ++ le4 w.toNat := by rw [← hw, List.take_append_drop]
  rw [e] at h
  have h2 := seal_of_state h
  rw [← e] at h2
  rw [← h2]
  exact ⟨_, open_seal _⟩

/-- bit n turned -/
def turn (bs : List UInt8) (n : Nat) : List UInt8 := bs.modify (n / 8) fun x => x ^^^ UInt8.ofNat (2 ^ (n % 8))
theorem turn_len (bs : List UInt8) (n : Nat) : (turn bs n).length = bs.length := by simp [turn]
theorem turn8 (x : UInt8) (j i : Nat) (hj : j < 8) : (x ^^^ UInt8.ofNat (2 ^ j)).toNat.testBit i = (x.toNat.testBit i ^^ decide (i = j)) := by
  have h : 2 ^ j < 256 := Nat.pow_lt_pow_right (by omega) (show j < 8 from hj)
  rw [UInt8.toNat_xor, UInt8.toNat_ofNat', Nat.mod_eq_of_lt h, Nat.testBit_xor, Nat.testBit_two_pow]
  congr 1
  simp [eq_comm]
theorem bits_at (bs : List UInt8) (n : Nat) : (bitsL bs)[n]? = (bs[n / 8]?).map fun x => x.toNat.testBit (n % 8) := by
  induction bs generalizing n with
  | nil => simp [bitsL]
  | cons x l ih =>
    rw [show bitsL (x :: l) = bits8 x ++ bitsL l from rfl]
    by_cases h : n < 8
    · rw [List.getElem?_append_left (by rw [bits8_len]; exact h), Nat.div_eq_of_lt h, Nat.mod_eq_of_lt h]
      simp [bits8, h]
    · rw [List.getElem?_append_right (by rw [bits8_len]; omega), bits8_len, ih (n - 8)]
      obtain ⟨m, rfl⟩ : ∃ m, n = m + 8 := ⟨n - 8, by omega⟩
      rw [show m + 8 - 8 = m by omega, show (m + 8) / 8 = m / 8 + 1 by omega, show (m + 8) % 8 = m % 8 by omega, List.getElem?_cons_succ]
theorem turn_bits (bs : List UInt8) (n i : Nat) : (bitsL (turn bs n))[i]? = ((bitsL bs)[i]?).map fun b => (b ^^ decide (i = n)) := by
  rw [bits_at, bits_at]
  unfold turn
  rw [List.getElem?_modify]
  cases hx : bs[i / 8]? with
  | none => simp
  | some x =>
    simp only [Option.map_some, Option.map_eq_map]
    by_cases h : n / 8 = i / 8
    · rw [if_pos h, turn8 _ _ _ (Nat.mod_lt _ (by omega))]
      congr 2
      simp only [decide_eq_decide]
      omega
    · rw [if_neg h, decide_eq_false (show ¬ i = n by rintro rfl; exact h rfl)]
      simp
/-- the first k bits of a mask turned, from bit at on -/
def turns (bs : List UInt8) (a mask : Nat) : Nat → List UInt8
  | 0 => bs
  | k + 1 => if mask.testBit k then turn (turns bs a mask k) (a + k) else turns bs a mask k
theorem turns_len (bs : List UInt8) (a mask k : Nat) : (turns bs a mask k).length = bs.length := by
  induction k with
  | zero => rfl
  | succ k ih => unfold turns; split <;> simp [turn_len, ih]
theorem turns_bits (bs : List UInt8) (a mask k i : Nat) : (bitsL (turns bs a mask k))[i]? = ((bitsL bs)[i]?).map fun b => (b ^^ (decide (a ≤ i ∧ i < a + k) && mask.testBit (i - a))) := by
  induction k with
  | zero =>
    rw [show (fun b => (b ^^ (decide (a ≤ i ∧ i < a + 0) && mask.testBit (i - a)))) = fun b => b from by funext b; rw [decide_eq_false (by omega)]; simp]
    simp [turns]
  | succ k ih =>
    unfold turns
    by_cases hm : mask.testBit k = true
    · rw [if_pos hm, turn_bits, ih, Option.map_map]
      congr 1
      funext b
      simp only [Function.comp]
      by_cases h : i = a + k
      · subst h
        rw [show a + k - a = k by omega, hm, decide_eq_false (show ¬ (a ≤ a + k ∧ a + k < a + k) by omega), decide_eq_true (show a ≤ a + k ∧ a + k < a + (k + 1) by omega), decide_eq_true rfl]
        simp
      · rw [decide_eq_false h, Bool.xor_false]
        congr 2
        simp only [decide_eq_decide]
        omega
    · rw [if_neg hm, ih]
      congr 1
      funext b
      by_cases h : i = a + k
      · subst h
        have hm' : mask.testBit k = false := by simpa using hm
        rw [show a + k - a = k by omega, hm']
        simp
      · congr 2
        simp only [decide_eq_decide]
        omega
/-- what was turned, as bits -/
def turned (L a mask k : Nat) : List Bool := (List.range L).map fun i => decide (a ≤ i ∧ i < a + k) && mask.testBit (i - a)
theorem turns_zip (bs : List UInt8) (a mask k : Nat) : bitsL (turns bs a mask k) = List.zipWith xor (bitsL bs) (turned (bitsL bs).length a mask k) := by
  apply List.ext_getElem?
  intro i
  rw [turns_bits, List.getElem?_zipWith]
  unfold turned
  rw [List.getElem?_map]
  by_cases h : i < (bitsL bs).length
  · rw [List.getElem?_range h, List.getElem?_eq_getElem h]
    rfl
  · rw [List.getElem?_eq_none (by omega)]
    rfl
/-- a frame some of whose bits within thirty-two were turned is no frame -/
theorem turns_found (b : List UInt8) (a mask k : Nat) (hk : k ≤ 32) (h : turns (seal_ b) a mask k ≠ seal_ b) : openF (turns (seal_ b) a mask k) = none := by
  cases ho : openF (turns (seal_ b) a mask k) with
  | none => rfl
  | some y =>
    exfalso
    apply h
    have h1 := open_some ho
    have h2 : state (turns (seal_ b) a mask k) = rest := by rw [h1]; exact state_seal y
    have h3 := state_seal b
    unfold state at h2 h3
    rw [turns_zip] at h2
    have h4 := run_burst (bitsL (seal_ b)) (turned (bitsL (seal_ b)).length a mask k) (BitVec.allOnes 32) a (by simp [turned]) (by
      intro i hi
      unfold turned at hi
      rw [List.getD_eq_getElem?_getD, List.getElem?_map] at hi
      by_cases hl : i < (bitsL (seal_ b)).length
      · rw [List.getElem?_range hl] at hi
        simp at hi
        omega
      · rw [List.getElem?_eq_none (by simp; omega)] at hi
        simp at hi) (h2.trans h3.symm)
    apply bitsL_inj (by rw [turns_len])
    apply List.ext_getElem?
    intro i
    rw [turns_bits]
    by_cases hl : i < (bitsL (seal_ b)).length
    · have h5 := h4 i
      unfold turned at h5
      rw [List.getD_eq_getElem?_getD, List.getElem?_map, List.getElem?_range hl] at h5
      simp only [Option.map_some, Option.getD_some] at h5
      rw [h5, List.getElem?_eq_getElem hl]
      simp
    · rw [List.getElem?_eq_none (by omega)]
      rfl

theorem xor_same (l : List Bool) : List.zipWith xor l l = List.replicate l.length false := by
  induction l with
  | nil => rfl
  | cons b l ih => rw [List.zipWith_cons_cons, ih, Bool.xor_self, List.length_cons, List.replicate_succ]
theorem run_inj {c d : BitVec 32} (l : List Bool) (h : run c l = run d l) : c = d := by
  apply xor_eq_zero
  apply zeros_eq l.length
  have := run_xor l l c d rfl
  rw [xor_same, run_false, h, BitVec.xor_self] at this
  exact this
/-- unlike sums: bytes that differ within four side by side -/
theorem sum_one (front a b back : List UInt8) (ha : a.length = 4) (hb : b.length = 4) (h : sum (front ++ (a ++ back)) = sum (front ++ (b ++ back))) : a = b := by
  obtain ⟨x, rfl⟩ := le4_of a ha
  obtain ⟨y, rfl⟩ := le4_of b hb
  unfold sum at h
  have h1 := congrArg (fun v : BitVec 32 => ~~~ v) h
  simp only [BitVec.not_not] at h1
  rw [bitsL_append, bitsL_append, bitsL_append, bitsL_append, run_append, run_append, run_append, run_append] at h1
  have h2 := run_inj _ h1
  rw [run_le4, run_le4] at h2
  have h3 := zeros_inj h2
  have h4 : x = y := by
    have e : ∀ s v : BitVec 32, s ^^^ (s ^^^ v) = v := fun s v => by rw [← BitVec.xor_assoc, BitVec.xor_self, BitVec.zero_xor]
    rw [← e (run (BitVec.allOnes 32) (bitsL front)) x, h3, e]
  rw [h4]
theorem sum_seal (b : List UInt8) : sum (seal_ b) = 0x2144DF1C#32 := by
  have h := state_seal b
  unfold state at h
  unfold sum
  rw [h]
  exact rest_eq
/-- turned twice it is as it was -/
theorem turns_twice (bs : List UInt8) (a mask k : Nat) : turns (turns bs a mask k) a mask k = bs := by
  apply bitsL_inj (by rw [turns_len, turns_len])
  apply List.ext_getElem?
  intro i
  rw [turns_bits, turns_bits, Option.map_map]
  have : ((fun b => (b ^^ (decide (a ≤ i ∧ i < a + k) && mask.testBit (i - a)))) ∘ fun b => (b ^^ (decide (a ≤ i ∧ i < a + k) && mask.testBit (i - a)))) = fun b : Bool => b := by
    funext b
    simp only [Function.comp]
    rw [Bool.xor_assoc, Bool.xor_self, Bool.xor_false]
  rw [this]
  simp
end Crc
