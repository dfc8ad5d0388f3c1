/- Layer 2, plain: a number's form, what bytes begin with (no program here). -/
namespace Wire

/-- so many bytes, the highest first -/
def dg : Nat → Nat → List UInt8
  | 0, _ => []
  | k + 1, n => dg k (n / 256) ++ [UInt8.ofNat (n % 256)]
/-- how few bytes a number can have (of at most k) -/
def szk : Nat → Nat → Nat
  | 0, _ => 0
  | k + 1, n => if n = 0 then 0 else szk k (n / 256) + 1
def sz (n : Nat) : Nat := szk 8 n
def form (n : Nat) : List UInt8 := UInt8.ofNat (sz n) :: dg (sz n) n
def val (l : List UInt8) : Nat := l.foldl (fun a x => a * 256 + x.toNat) 0
/-- a number of 64 bits -/
def W64 (n : Nat) : Prop := n < 256 ^ 8

theorem dg_len (k n : Nat) : (dg k n).length = k := by
  induction k generalizing n with
  | zero => rfl
  | succ k ih => simp [dg, ih]
theorem dg_at (k n j : Nat) (h : j < k) : (dg k n)[j]? = some (UInt8.ofNat (n / 256 ^ (k - 1 - j) % 256)) := by
  induction k generalizing n with
  | zero => omega
  | succ k ih =>
    by_cases hj : j < k
    · rw [dg, List.getElem?_append_left (by rw [dg_len]; exact hj), ih (n / 256) hj, Nat.div_div_eq_div_mul, Nat.mul_comm, ← Nat.pow_succ]
      rw [show (k - 1 - j).succ = k + 1 - 1 - j by omega]
    · obtain rfl : j = k := by omega
      rw [dg, List.getElem?_append_right (by rw [dg_len]; omega), dg_len]
      simp
theorem dg_take (k n q : Nat) (h : q < k) : (dg k n).take (k - q) = (dg k n).take (k - (q + 1)) ++ [UInt8.ofNat (n / 256 ^ q % 256)] := by
  have e := dg_at k n (k - (q + 1)) (by omega)
  rw [show k - 1 - (k - (q + 1)) = q by omega] at e
  rw [show k - q = k - (q + 1) + 1 by omega, List.take_add_one, e]
  rfl
theorem byte_at (n q : Nat) : ((n : Int) / 2 ^ (8 * q) % 256) = ((UInt8.ofNat (n / 256 ^ q % 256)).toNat : Int) := by
  have h : ((2 : Int) ^ (8 * q)) = ((256 ^ q : Nat) : Int) := by rw [Int.pow_mul]; simp
  rw [h, UInt8.toNat_ofNat', Nat.mod_mod_of_dvd _ (by decide)]
  simp
theorem szk_le (k n : Nat) : szk k n ≤ k := by
  induction k generalizing n with
  | zero => simp [szk]
  | succ k ih =>
    unfold szk
    split
    · omega
    · have := ih (n / 256); omega
theorem sz_le (n : Nat) : sz n ≤ 8 := szk_le 8 n
theorem lt_szk (k n : Nat) (h : n < 256 ^ k) : n < 256 ^ szk k n := by
  induction k generalizing n with
  | zero => simpa [szk] using h
  | succ k ih =>
    unfold szk
    split
    · subst_vars; simp
    · have h2 := ih (n / 256) (by rw [Nat.div_lt_iff_lt_mul (by omega)]; rw [Nat.pow_succ] at h; exact h)
      rw [Nat.pow_succ]
      rw [Nat.div_lt_iff_lt_mul (by omega)] at h2
      exact h2
theorem szk_ge (k n j : Nat) (h : n < 256 ^ k) (hj : n < 256 ^ j) : szk k n ≤ j := by
  induction k generalizing n j with
  | zero => simp [szk]
  | succ k ih =>
    unfold szk
    split
    · omega
    · cases j with
      | zero => simp at hj; omega
      | succ j =>
        have := ih (n / 256) j (by rw [Nat.div_lt_iff_lt_mul (by omega)]; rw [Nat.pow_succ] at h; exact h) (by rw [Nat.div_lt_iff_lt_mul (by omega)]; rw [Nat.pow_succ] at hj; exact hj)
        omega
theorem szk_up (k n : Nat) (h : n < 256 ^ k) : szk (k + 1) n = szk k n := by
  have h1 : n < 256 ^ (k + 1) := by rw [Nat.pow_succ]; omega
  have a := szk_ge (k + 1) n (szk k n) h1 (lt_szk k n h)
  have b := szk_ge k n (szk (k + 1) n) h (lt_szk (k + 1) n h1)
  omega
theorem sz_zero : sz 0 = 0 := rfl
theorem sz_step (n : Nat) (h : W64 n) (h0 : n ≠ 0) : sz n = sz (n / 256) + 1 := by
  have e : n / 256 < 256 ^ 7 := by unfold W64 at h; omega
  have e1 : sz (n / 256) = szk 7 (n / 256) := szk_up 7 (n / 256) e
  rw [e1]
  show (if n = 0 then 0 else szk 7 (n / 256) + 1) = _
  rw [if_neg h0]
theorem sz_mono (a b : Nat) (h : W64 b) (hab : a ≤ b) : sz a ≤ sz b :=
  szk_ge 8 a (sz b) (Nat.lt_of_le_of_lt hab h) (Nat.lt_of_le_of_lt hab (lt_szk 8 b h))

theorem snoc_ind {α : Type} {p : List α → Prop} (nil : p []) (snoc : ∀ l x, p l → p (l ++ [x])) (l : List α) : p l := by
  have h : ∀ l : List α, p l.reverse := by
    intro l
    induction l with
    | nil => exact nil
    | cons x l ih => rw [List.reverse_cons]; exact snoc _ x ih
  have := h l.reverse
  rwa [List.reverse_reverse] at this
theorem val_snoc (l : List UInt8) (x : UInt8) : val (l ++ [x]) = val l * 256 + x.toNat := by simp [val]
theorem val_lt (l : List UInt8) : val l < 256 ^ l.length := by
  induction l using snoc_ind with
  | nil => simp [val]
  | snoc l x ih =>
    rw [val_snoc, List.length_append, List.length_singleton, Nat.pow_succ]
    have := UInt8.toNat_lt x
    omega
theorem val_dg (k n : Nat) (h : n < 256 ^ k) : val (dg k n) = n := by
  induction k generalizing n with
  | zero => simp at h; subst h; rfl
  | succ k ih =>
    rw [dg, val_snoc, ih (n / 256) (by rw [Nat.div_lt_iff_lt_mul (by omega)]; rw [Nat.pow_succ] at h; exact h), UInt8.toNat_ofNat', Nat.mod_mod_of_dvd _ (by decide)]
    omega
theorem dg_val (l : List UInt8) : dg l.length (val l) = l := by
  induction l using snoc_ind with
  | nil => rfl
  | snoc l x ih =>
    have := UInt8.toNat_lt x
    rw [List.length_append, List.length_singleton, dg, val_snoc, show (val l * 256 + x.toNat) / 256 = val l by omega, ih, show (val l * 256 + x.toNat) % 256 = x.toNat by omega]
    simp
theorem val_cons0 (l : List UInt8) : val (0 :: l) = val l := rfl
theorem val_cons (x : UInt8) (l : List UInt8) : val (x :: l) = x.toNat * 256 ^ l.length + val l := by
  induction l using snoc_ind with
  | nil => simp [val]
  | snoc l y ih =>
    rw [← List.cons_append, val_snoc, ih, val_snoc, List.length_append, List.length_singleton, Nat.pow_succ, Nat.add_mul, Nat.mul_assoc]
    omega
/-- bytes without a 0 ahead are as few as they can be -/
theorem sz_val (l : List UInt8) (h8 : l.length ≤ 8) (h0 : l.head? ≠ some 0) : sz (val l) = l.length := by
  have hlt := val_lt l
  have hw : W64 (val l) := Nat.lt_of_lt_of_le hlt (Nat.pow_le_pow_right (by omega) h8)
  have h1 := szk_ge 8 (val l) l.length hw hlt
  have h2 := lt_szk 8 (val l) hw
  cases l with
  | nil => rfl
  | cons x r =>
    have hx : 0 < x.toNat := by
      rcases Nat.eq_zero_or_pos x.toNat with h | h
      · exact absurd (by simp [UInt8.toNat_inj.1 (show x.toNat = (0 : UInt8).toNat from h)]) h0
      · exact h
    rw [val_cons] at h2
    have h3 : ¬ szk 8 (val (x :: r)) ≤ r.length := by
      intro h
      have h4 : 256 ^ szk 8 (val (x :: r)) ≤ 256 ^ r.length := Nat.pow_le_pow_right (by omega) h
      rw [val_cons] at h4
      have h5 : 256 ^ r.length ≤ x.toNat * 256 ^ r.length := Nat.le_mul_of_pos_left _ hx
      omega
    unfold sz
    simp only [List.length_cons] at h1 ⊢
    omega
theorem sz_val0 (l : List UInt8) (h8 : l.length ≤ 8) (h0 : l.head? = some 0) : sz (val l) < l.length := by
  cases l with
  | nil => simp at h0
  | cons x r =>
    simp only [List.head?_cons, Option.some.injEq] at h0
    subst h0
    rw [val_cons0]
    have hlt := val_lt r
    simp only [List.length_cons] at h8
    have hw : W64 (val r) := Nat.lt_of_lt_of_le hlt (Nat.pow_le_pow_right (by omega) (by omega))
    have h1 := szk_ge 8 (val r) r.length hw hlt
    unfold sz
    simp only [List.length_cons]
    omega

theorem sz_byte (n : Nat) : (UInt8.ofNat (sz n)).toNat = sz n := by
  rw [UInt8.toNat_ofNat']; have := sz_le n; omega
theorem form_len (n : Nat) : (form n).length = sz n + 1 := by simp [form, dg_len]

/-- the number whose form bytes begin with, and what is behind it -/
def takeF : List UInt8 → Option (Nat × List UInt8)
  | [] => none
  | s :: r => if 8 < s.toNat ∨ r.length < s.toNat ∨ (0 < s.toNat ∧ r.head? = some 0) then none else some (val (r.take s.toNat), r.drop s.toNat)

theorem takeF_cons (s : UInt8) (r : List UInt8) : takeF (s :: r) = if 8 < s.toNat ∨ r.length < s.toNat ∨ (0 < s.toNat ∧ r.head? = some 0) then none else some (val (r.take s.toNat), r.drop s.toNat) := rfl
theorem takeF_form (n : Nat) (r : List UInt8) (h : W64 n) : takeF (form n ++ r) = some (n, r) := by
  have hl := sz_le n
  have hs := sz_byte n
  have hn : n < 256 ^ sz n := lt_szk 8 n h
  have hd : (dg (sz n) n).length = sz n := dg_len _ _
  unfold form
  rw [List.cons_append, takeF_cons, hs, if_neg]
  · rw [List.take_left' hd, List.drop_left' hd, val_dg _ _ hn]
  · rintro (h1 | h1 | ⟨h1, h2⟩)
    · omega
    · rw [List.length_append, hd] at h1; omega
    · have h3 : (dg (sz n) n).head? = some 0 := by
        cases hx : dg (sz n) n with
        | nil => rw [hx] at hd; simp at hd; omega
        | cons x y => rw [hx] at h2; simpa using h2
      have h4 := sz_val0 (dg (sz n) n) (by omega) h3
      rw [val_dg _ _ hn, hd] at h4
      omega
theorem takeF_some {b : List UInt8} {n : Nat} {r : List UInt8} (h : takeF b = some (n, r)) : W64 n ∧ b = form n ++ r := by
  cases b with
  | nil => simp [takeF] at h
  | cons s l =>
    rw [takeF_cons] at h
    split at h
    · cases h
    · rename_i hc
      have h1 : s.toNat ≤ 8 := by omega
      have h2 : s.toNat ≤ l.length := by omega
      simp only [Option.some.injEq, Prod.mk.injEq] at h
      obtain ⟨rfl, rfl⟩ := h
      have hl : (l.take s.toNat).length = s.toNat := by simp; omega
      have hv := val_lt (l.take s.toNat)
      have h0 : (l.take s.toNat).head? ≠ some 0 := by
        intro h0
        cases l with
        | nil => simp at h0
        | cons x y =>
          cases hz : s.toNat with
          | zero => rw [hz] at h0; simp at h0
          | succ q => rw [hz] at h0; simp at h0; subst h0; exact hc (Or.inr (Or.inr ⟨by omega, rfl⟩))
      have hs := sz_val (l.take s.toNat) (by omega) h0
      refine ⟨Nat.lt_of_lt_of_le hv (Nat.pow_le_pow_right (by omega) (by omega)), ?_⟩
      have hd := dg_val (l.take s.toNat)
      unfold form
      rw [hs, hd, hl, List.cons_append, List.take_append_drop]
      simp
theorem takeF_len {b : List UInt8} {n : Nat} {r : List UInt8} (h : takeF b = some (n, r)) : r.length < b.length := by
  rw [(takeF_some h).2]; simp [form_len]

theorem sz_val_le (l : List UInt8) (h8 : l.length ≤ 8) : sz (val l) ≤ l.length := by
  by_cases h0 : l.head? = some 0
  · exact Nat.le_of_lt (sz_val0 l h8 h0)
  · exact Nat.le_of_eq (sz_val l h8 h0)
theorem val_w64 (l : List UInt8) (h8 : l.length ≤ 8) : W64 (val l) := Nat.lt_of_lt_of_le (val_lt l) (Nat.pow_le_pow_right (by omega) h8)
theorem ref_yes {bs : List UInt8} {v : Nat} (hv : W64 v) (h : form v = bs.take (form v).length) : takeF bs = some (v, bs.drop (form v).length) := by
  have e : bs = form v ++ bs.drop (form v).length := by
    have := List.take_append_drop (form v).length bs
    rw [← h] at this
    exact this.symm
  have t := takeF_form v (bs.drop (form v).length) hv
  rwa [← e] at t
theorem ref_no {s : UInt8} {l : List UInt8} (h : form (val (l.take s.toNat)) ≠ (s :: l).take (form (val (l.take s.toNat))).length) : takeF (s :: l) = none := by
  cases ht : takeF (s :: l) with
  | none => rfl
  | some x =>
    obtain ⟨v, r⟩ := x
    have e := (takeF_some ht).2
    rw [takeF_cons] at ht
    split at ht
    · cases ht
    · simp only [Option.some.injEq, Prod.mk.injEq] at ht
      obtain ⟨rfl, _⟩ := ht
      exact absurd (by rw [e]; simp) h

/-- so many numbers -/
def getsF : Nat → List UInt8 → Option (List Nat × List UInt8)
  | 0, b => some ([], b)
  | k + 1, b => (takeF b).bind fun x => (getsF k x.2).map fun y => (x.1 :: y.1, y.2)
theorem getsF_form (ns : List Nat) (r : List UInt8) (h : ∀ n ∈ ns, W64 n) : getsF ns.length (ns.flatMap form ++ r) = some (ns, r) := by
  induction ns with
  | nil => rfl
  | cons n ns ih =>
    rw [List.length_cons, getsF, List.flatMap_cons, List.append_assoc, takeF_form n _ (h n (by simp))]
    simp [ih (fun m hm => h m (by simp [hm]))]
/-- the text that stands at the beginning, and what is behind it -/
def cutF (b : List UInt8) : Option (List UInt8 × List UInt8) :=
  match takeF b with
  | none => none
  | some (n, r) => if 4000 < n ∨ r.length < n then none else some (r.take n, r.drop n)
/-- a text behind bytes -/
def textF (b t : List UInt8) : List UInt8 := b ++ form t.length ++ t
theorem cutF_some {b t r : List UInt8} (h : cutF b = some (t, r)) : t.length ≤ 4000 ∧ b = textF [] t ++ r := by
  unfold cutF at h
  cases ht : takeF b with
  | none => rw [ht] at h; cases h
  | some x =>
    obtain ⟨n, l⟩ := x
    rw [ht] at h
    simp only at h
    split at h
    · cases h
    · simp only [Option.some.injEq, Prod.mk.injEq] at h
      obtain ⟨rfl, rfl⟩ := h
      have hl : (l.take n).length = n := by rw [List.length_take]; omega
      refine ⟨by omega, ?_⟩
      unfold textF
      rw [hl, List.nil_append, List.append_assoc, List.take_append_drop]
      exact (takeF_some ht).2
theorem cutF_text {t r : List UInt8} (h : t.length ≤ 4000) : cutF (textF [] t ++ r) = some (t, r) := by
  unfold cutF textF
  rw [List.nil_append, List.append_assoc, takeF_form _ _ (by unfold W64; omega)]
  simp only
  rw [if_neg (by rw [List.length_append]; omega), List.take_left, List.drop_left]
end Wire
