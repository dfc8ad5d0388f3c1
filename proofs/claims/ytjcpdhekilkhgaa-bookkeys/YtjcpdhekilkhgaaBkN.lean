/- Layer 7, plain: the news, key by key (no program here). -/
import Derived.Test.YtjcpdhekilkhgaaBkQ
namespace Go.Proofs.Ytjcpdhekilkhgaa.Bk
open Tg

/-- the news among the first k keys -/
def newsK (old l : List E) : Nat → List E
  | 0 => []
  | k + 1 => newsK old l k ++ if less (find old k).tag (find l k).tag then [find l k] else []
theorem newsK_len (old l : List E) : ∀ k, (newsK old l k).length ≤ k
  | 0 => Nat.le_refl _
  | k + 1 => by
    show (newsK old l k ++ _).length ≤ _
    rw [List.length_append]
    have := newsK_len old l k
    split <;> simp <;> omega
/-- what is newer than something of a book is there -/
theorem newer_ok (old l : List E) (ho : isBook old = true) (hl : isBook l = true) (j : Int) (h : less (find old j).tag (find l j).tag = true) : 0 ≤ j ∧ j ≤ 3 ∧ okE (find l j) = true ∧ find l j ∈ l := by
  rcases find_tag l hl j with ⟨h1, h2, h3⟩ | ⟨h1, h2, _, _, _, _, h3⟩
  · exfalso
    rw [less_iff] at h
    unfold E.tag at h
    simp only at h
    rcases find_tag old ho j with ⟨_, h5, h6⟩ | ⟨_, _, h5, _, h6, _⟩ <;> omega
  · exact ⟨h1, h2, (chk_mem l (-1) hl _ h3).1, h3⟩
theorem newsK_mem (old l : List E) (ho : isBook old = true) (hl : isBook l = true) : ∀ k, (isBook (newsK old l k) = true ∧ (∀ x ∈ newsK old l k, x.key < k) ∧ ∀ j : Int, (newsK old l k).find? (fun x => x.key == j) = if j < k ∧ less (find old j).tag (find l j).tag = true then some (find l j) else none)
  | 0 => by
    refine ⟨rfl, fun x hx => ?_, fun j => ?_⟩
    · have hx : x ∈ ([] : List E) := hx
      cases hx
    · rw [if_neg ?_]
      · rfl
      · rintro ⟨h1, h2⟩
        have := (newer_ok old l ho hl j h2).1
        omega
  | k + 1 => by
    obtain ⟨h1, h2, h3⟩ := newsK_mem old l ho hl k
    have e : newsK old l (k + 1) = newsK old l k ++ if less (find old k).tag (find l k).tag then [find l k] else [] := rfl
    rw [e]
    cases hx : less (find old k).tag (find l k).tag with
    | false =>
      rw [if_neg (by simp), List.append_nil]
      refine ⟨h1, fun x hx => by have := h2 x hx; omega, fun j => ?_⟩
      rw [h3 j]
      by_cases hj : j = k
      · subst hj; rw [if_neg (by omega), if_neg (fun hc => by rw [hx] at hc; cases hc.2)]
      · by_cases hc : j < k ∧ less (find old j).tag (find l j).tag = true
        · rw [if_pos hc, if_pos ⟨by omega, hc.2⟩]
        · rw [if_neg hc, if_neg (fun hd => hc ⟨by omega, hd.2⟩)]
    | true =>
      obtain ⟨q1, q2, q3, q4⟩ := newer_ok old l ho hl k hx
      have p1 := find_key l k
      rw [if_pos rfl]
      refine ⟨chk_append _ _ _ h1 (fun y hy => by rw [p1]; exact h2 y hy) (by rw [p1]; omega) q3, ?_, fun j => ?_⟩
      · intro x hx
        rcases List.mem_append.1 hx with hx | hx
        · have := h2 x hx; omega
        · rw [List.mem_singleton] at hx
          subst hx
          rw [p1]; omega
      · rw [List.find?_append, h3 j]
        by_cases hj : j = k
        · subst hj
          rw [if_neg (by omega), if_pos ⟨by omega, hx⟩]
          simp [p1]
        · have hn : [find l k].find? (fun x => x.key == j) = none := find?_none_of _ _ (by intro x hx; rw [List.mem_singleton] at hx; subst hx; rw [p1]; omega)
          rw [hn, Option.or_none]
          by_cases hc : j < k ∧ less (find old j).tag (find l j).tag = true
          · rw [if_pos hc, if_pos ⟨by omega, hc.2⟩]
          · rw [if_neg hc, if_neg (fun hd => hc ⟨by omega, hd.2⟩)]
theorem newsK_eq (old l : List E) (ho : isBook old = true) (hl : isBook l = true) : newsK old l 4 = news old l := by
  obtain ⟨h1, _, h3⟩ := newsK_mem old l ho hl 4
  refine book_ext _ _ (-1) h1 (news_book old l hl) (fun k => ?_)
  rw [find_news old l hl]
  show ((newsK old l 4).find? _).getD _ = _
  rw [h3 k]
  unfold isNew
  rw [find_key]
  by_cases hc : less (find old k).tag (find l k).tag = true
  · obtain ⟨q1, q2, q3, _⟩ := newer_ok old l ho hl k hc
    rw [if_pos ⟨by omega, hc⟩, if_pos ⟨hc, ok_tag _ q3⟩]
    rfl
  · rw [if_neg (fun h => hc h.2), if_neg (fun h => hc h.1)]
    rfl
end Go.Proofs.Ytjcpdhekilkhgaa.Bk
