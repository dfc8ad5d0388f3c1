/- Layer 6, plain: tags of any numbers (no program here). -/
import Derived.Test.YtjcpdhekilkhgaaChecked
namespace Tg

def I64 (x : Int) : Prop := -9223372036854775808 ≤ x ∧ x ≤ 9223372036854775807
def I2 (t : Int × Int) : Prop := I64 t.1 ∧ I64 t.2
def right (n d : Int) : Bool := decide ((n = 0 ∧ d = 0) ∨ (0 < n ∧ n ≤ 1000000 ∧ 0 ≤ d ∧ d ≤ 5))
def less (a b : Int × Int) : Bool := decide (a.1 < b.1 ∨ (a.1 = b.1 ∧ a.2 < b.2))
theorem less_iff (a b : Int × Int) : less a b = true ↔ a.1 < b.1 ∨ (a.1 = b.1 ∧ a.2 < b.2) := decide_eq_true_iff
theorem less_not (a b : Int × Int) : less a b = false ↔ ¬ (a.1 < b.1 ∨ (a.1 = b.1 ∧ a.2 < b.2)) := decide_eq_false_iff_not
/-- the newest one -/
def maxStep (best t : Int × Int) : Int × Int := if less best t then t else best
def maxT : List (Int × Int) → Int × Int
  | [] => (0, 0)
  | t :: l => l.foldl maxStep t
theorem maxStep_self (t : Int × Int) : maxStep t t = t := by unfold maxStep; split <;> rfl
theorem maxT_take (l : List (Int × Int)) (k : Nat) (t : Int × Int) (hk : 0 < k) (h : l[k]? = some t) : maxT (l.take (k + 1)) = maxStep (maxT (l.take k)) t := by
  cases l with
  | nil => simp at h
  | cons x r =>
    obtain ⟨j, rfl⟩ : ∃ j, k = j + 1 := ⟨k - 1, by omega⟩
    rw [List.getElem?_cons_succ] at h
    rw [List.take_succ_cons, List.take_succ_cons]
    show List.foldl maxStep x (r.take (j + 1)) = maxStep (List.foldl maxStep x (r.take j)) t
    rw [List.take_add_one, h, List.foldl_append]
    rfl
theorem maxT_first (l : List (Int × Int)) (t : Int × Int) (h : l[0]? = some t) : maxT (l.take 1) = t := by
  cases l with
  | nil => simp at h
  | cons x r => simp at h; subst h; rfl
theorem maxT_fold (l : List (Int × Int)) (t : Int × Int) (h : l[0]? = some t) : l.foldl maxStep t = maxT l := by
  cases l with
  | nil => simp at h
  | cons x r => simp at h; subst h; rw [List.foldl_cons, maxStep_self]; rfl
theorem fold_take (l : List (Int × Int)) (b : Int × Int) (k : Nat) (t : Int × Int) (h : l[k]? = some t) : (l.take (k + 1)).foldl maxStep b = maxStep ((l.take k).foldl maxStep b) t := by
  rw [List.take_add_one, h, List.foldl_append]
  rfl
/-- one among them, or the first, and none goes behind it -/
theorem max_best : ∀ (l : List (Int × Int)) (b : Int × Int), (List.foldl maxStep b l = b ∨ List.foldl maxStep b l ∈ l) ∧ less (List.foldl maxStep b l) b = false ∧ ∀ x ∈ l, less (List.foldl maxStep b l) x = false
  | [], b => ⟨Or.inl rfl, by rw [List.foldl_nil, less_not]; omega, by simp⟩
  | v :: l, b => by
    rw [List.foldl_cons]
    obtain ⟨h1, h2, h3⟩ := max_best l (maxStep b v)
    generalize List.foldl maxStep (maxStep b v) l = t at h1 h2 h3
    unfold maxStep at h1 h2
    rw [less_not] at h2
    by_cases hb : less b v = true
    · rw [if_pos hb] at h1 h2
      rw [less_iff] at hb
      refine ⟨Or.inr ?_, by rw [less_not]; omega, ?_⟩
      · rcases h1 with rfl | h1
        · simp
        · simp [h1]
      · intro x hx
        rcases List.mem_cons.1 hx with rfl | hx
        · rw [less_not]; omega
        · exact h3 x hx
    · rw [if_neg hb] at h1 h2
      rw [less_iff] at hb
      refine ⟨?_, by rw [less_not]; omega, ?_⟩
      · rcases h1 with rfl | h1
        · exact Or.inl rfl
        · exact Or.inr (by simp [h1])
      · intro x hx
        rcases List.mem_cons.1 hx with rfl | hx
        · rw [less_not]; omega
        · exact h3 x hx
/-- the greatest number seen, from t on -/
def topN (t : Int) (l : List (Int × Int)) : Int := l.foldl (fun m x => if m < x.1 then x.1 else m) t
def top0 (last : Int) : Int := if 0 < last then last else 0
theorem topN_take (t : Int) (l : List (Int × Int)) (k : Nat) (x : Int × Int) (h : l[k]? = some x) : topN t (l.take (k + 1)) = if topN t (l.take k) < x.1 then x.1 else topN t (l.take k) := by
  unfold topN
  rw [List.take_add_one, h, List.foldl_append]
  rfl
theorem topN_ge : ∀ (l : List (Int × Int)) (t : Int), t ≤ topN t l ∧ (∀ x ∈ l, x.1 ≤ topN t l) ∧ (topN t l = t ∨ ∃ x ∈ l, topN t l = x.1)
  | [], t => ⟨Int.le_refl _, by simp, Or.inl rfl⟩
  | v :: l, t => by
    have ih := topN_ge l (if t < v.1 then v.1 else t)
    show t ≤ topN (if t < v.1 then v.1 else t) l ∧ (∀ x ∈ v :: l, x.1 ≤ topN (if t < v.1 then v.1 else t) l) ∧ _
    change _ ∧ _ ∧ (topN (if t < v.1 then v.1 else t) l = t ∨ ∃ x ∈ v :: l, topN (if t < v.1 then v.1 else t) l = x.1)
    obtain ⟨h1, h2, h3⟩ := ih
    generalize hm : topN (if t < v.1 then v.1 else t) l = m at h1 h2 h3
    refine ⟨by split at h1 <;> omega, ?_, ?_⟩
    · intro x hx
      rcases List.mem_cons.1 hx with rfl | hx
      · split at h1 <;> omega
      · exact h2 x hx
    · rcases h3 with h3 | ⟨x, hx, h3⟩
      · split at h3
        · exact Or.inr ⟨v, by simp, h3⟩
        · exact Or.inl h3
      · exact Or.inr ⟨x, by simp [hx], h3⟩
theorem top0_ge (last : Int) : 0 ≤ top0 last ∧ last ≤ top0 last := by unfold top0; split <;> omega
def next (node last : Int) (seen : List (Int × Int)) : Option (Int × Int) := if 0 ≤ node ∧ node ≤ 5 ∧ topN (top0 last) seen ≤ 999999 then some (topN (top0 last) seen + 1, node) else none
theorem maxT_mem (l : List (Int × Int)) (hl : l ≠ []) : maxT l ∈ l ∧ ∀ x ∈ l, less (maxT l) x = false := by
  cases l with
  | nil => exact absurd rfl hl
  | cons v l =>
    obtain ⟨h1, h2, h3⟩ := max_best l v
    refine ⟨?_, ?_⟩
    · show List.foldl maxStep v l ∈ _
      rcases h1 with h1 | h1
      · rw [h1]; simp
      · simp [h1]
    · intro x hx
      show less (List.foldl maxStep v l) x = false
      rcases List.mem_cons.1 hx with rfl | hx
      · exact h2
      · exact h3 x hx
theorem topN_mono (t : Int) (l m : List (Int × Int)) (h : ∀ x ∈ l, x ∈ m) : topN t l ≤ topN t m := by
  obtain ⟨h1, h2, _⟩ := topN_ge m t
  obtain ⟨_, _, h3⟩ := topN_ge l t
  rcases h3 with h3 | ⟨x, hx, h3⟩
  · omega
  · have := h2 x (h x hx)
    omega
theorem next_rev (node last : Int) (l : List (Int × Int)) : next node last l.reverse = next node last l := by
  have h : topN (top0 last) l.reverse = topN (top0 last) l := Int.le_antisymm (topN_mono _ _ _ (by simp)) (topN_mono _ _ _ (by simp))
  unfold next
  rw [h]
/-- of fewer the next tag is no newer -/
theorem next_fewer (node last : Int) (l m : List (Int × Int)) (h : ∀ x ∈ l, x ∈ m) (t : Int × Int) (ht : next node last m = some t) : ∃ u, next node last l = some u ∧ less t u = false := by
  have hm := topN_mono (top0 last) l m h
  unfold next at ht ⊢
  split at ht
  · rename_i hc
    cases ht
    rw [if_pos ⟨hc.1, hc.2.1, by omega⟩]
    exact ⟨_, rfl, by rw [less_not]; simp only; omega⟩
  · cases ht
/-- what a next tag is -/
theorem next_some {node last : Int} {ts : List (Int × Int)} {t : Int × Int} (h : next node last ts = some t) : t.2 = node ∧ 0 ≤ node ∧ node ≤ 5 ∧ 0 < t.1 ∧ t.1 ≤ 1000000 ∧ last < t.1 ∧ (∀ x ∈ ts, x.1 < t.1) ∧ t.1 = topN (top0 last) ts + 1 := by
  unfold next at h
  split at h
  · rename_i hc
    cases h
    obtain ⟨h1, h2, _⟩ := topN_ge ts (top0 last)
    have h0 := top0_ge last
    refine ⟨rfl, hc.1, hc.2.1, by show 0 < topN _ _ + 1; omega, by show topN _ _ + 1 ≤ _; omega, by show last < topN _ _ + 1; omega, fun x hx => ?_, rfl⟩
    have := h2 x hx
    show x.1 < topN _ _ + 1
    omega
  · cases h
theorem next_i2 {node last : Int} {ts : List (Int × Int)} {t : Int × Int} (h : next node last ts = some t) : I2 t := by
  obtain ⟨h1, h2, h3, h4, h5, _⟩ := next_some h
  unfold I2 I64
  omega
end Tg
