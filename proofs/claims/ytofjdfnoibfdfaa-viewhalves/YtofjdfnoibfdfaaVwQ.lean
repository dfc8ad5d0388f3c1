/- Layer 5, plain: where all views are alike, the last one holds all (no program here). -/
import Derived.Test.YtofjdfnoibfdfaaVwP
namespace Vw
open Chg

theorem less_iff (u v : Nat × Nat) : less u v = true ↔ size2 u < size2 v ∨ (size2 u = size2 v ∧ name2 u < name2 v) := by
  unfold less
  split
  · rw [decide_eq_true_iff]; omega
  · rw [decide_eq_true_iff]; omega
theorem top_best : ∀ (l : List (Nat × Nat)) (b : Nat × Nat), (List.foldl topStep b l = b ∨ List.foldl topStep b l ∈ l) ∧ less (List.foldl topStep b l) b = false ∧ ∀ x ∈ l, less (List.foldl topStep b l) x = false
  | [], b => ⟨Or.inl rfl, by rw [← Bool.not_eq_true, List.foldl_nil, less_iff]; omega, by simp⟩
  | v :: l, b => by
    rw [List.foldl_cons]
    obtain ⟨h1, h2, h3⟩ := top_best l (topStep b v)
    generalize List.foldl topStep (topStep b v) l = t at h1 h2 h3
    unfold topStep at h1 h2
    rw [← Bool.not_eq_true, less_iff] at h2
    by_cases hb : less b v = true
    · rw [if_pos hb] at h1 h2
      rw [less_iff] at hb
      refine ⟨Or.inr ?_, ?_, ?_⟩
      · rcases h1 with rfl | h1
        · simp
        · simp [h1]
      · rw [← Bool.not_eq_true, less_iff]; omega
      · intro x hx
        rcases List.mem_cons.1 hx with rfl | hx
        · rw [← Bool.not_eq_true, less_iff]; omega
        · exact h3 x hx
    · rw [if_neg hb] at h1 h2
      rw [less_iff] at hb
      refine ⟨?_, ?_, ?_⟩
      · rcases h1 with rfl | h1
        · exact Or.inl rfl
        · exact Or.inr (by simp [h1])
      · rw [← Bool.not_eq_true, less_iff]; omega
      · intro x hx
        rcases List.mem_cons.1 hx with rfl | hx
        · rw [← Bool.not_eq_true, less_iff]; omega
        · exact h3 x hx
theorem top_mem (l : List (Nat × Nat)) (hl : l ≠ []) : top l ∈ l ∧ ∀ x ∈ l, less (top l) x = false := by
  cases l with
  | nil => exact absurd rfl hl
  | cons v l =>
    obtain ⟨h1, h2, h3⟩ := top_best l v
    refine ⟨?_, ?_⟩
    · show List.foldl topStep v l ∈ _
      rcases h1 with h1 | h1
      · rw [h1]; simp
      · simp [h1]
    · intro x hx
      show less (List.foldl topStep v l) x = false
      rcases List.mem_cons.1 hx with rfl | hx
      · exact h2
      · exact h3 x hx
theorem within_cnt_all : ∀ a b : Fin 64, within a.1 b.1 = true → cnt a.1 ≤ cnt b.1 ∧ (cnt a.1 = cnt b.1 → a = b) := by decide +kernel
theorem within_cnt {a b : Nat} (ha : a < 64) (hb : b < 64) (h : within a b = true) : cnt a ≤ cnt b ∧ (cnt a = cnt b → a = b) := by
  have := within_cnt_all ⟨a, ha⟩ ⟨b, hb⟩ h
  exact ⟨this.1, fun e => by simpa using this.2 e⟩
theorem within_self_all : ∀ a : Fin 64, within a.1 a.1 = true := by decide +kernel
theorem within_self {a : Nat} (ha : a < 64) : within a a = true := within_self_all ⟨a, ha⟩
/-- THE LAST ONE HOLDS ALL -/
theorem top_holds (l : List (Nat × Nat)) (h64 : ∀ v ∈ l, v.1 < 64 ∧ v.2 < 64) (ha : alike l = true) (x : Nat × Nat) (hx : x ∈ l) : within2 x (top l) = true := by
  obtain ⟨h1, h2⟩ := top_mem l (by rintro rfl; cases hx)
  have h3 := h2 x hx
  have h4 : (within2 x (top l) || within2 (top l) x) = true := List.all_eq_true.1 (List.all_eq_true.1 ha x hx) (top l) h1
  have h5 := h64 x hx
  have h6 := h64 _ h1
  generalize top l = t at h1 h3 h4 h6
  rcases Bool.or_eq_true_iff.1 h4 with h | h
  · exact h
  · have h7 := Bool.and_eq_true_iff.1 h
    have h8 := within_cnt h6.1 h5.1 h7.1
    have h9 := within_cnt h6.2 h5.2 h7.2
    rw [← Bool.not_eq_true, less_iff] at h3
    unfold size2 at h3
    have e1 := h8.2 (by omega)
    have e2 := h9.2 (by omega)
    unfold within2
    rw [e1, e2, within_self h5.1, within_self h5.2]
    rfl
/-- WHO IS OUT STAYS OUT -/
theorem out_stays (a d d' : Nat) (k : Nat) (hk : d.testBit k = true) (h : ∀ i, d.testBit i = true → d'.testBit i = true) : inF a d' k = false := by
  unfold inF
  rw [h k hk]
  simp
end Vw
