/- Layer 7, plain: what merging does to books (no program here). -/
import Derived.Test.YtjcpdhekilkhgaaBkP
namespace Go.Proofs.Ytjcpdhekilkhgaa.Bk
open Tg

theorem okE_iff (x : E) : okE x = true ↔ 0 ≤ x.key ∧ x.key ≤ 3 ∧ 0 < x.num ∧ x.num ≤ 1000000 ∧ 0 ≤ x.node ∧ x.node ≤ 5 := by
  unfold okE right
  simp only [Bool.and_eq_true, decide_eq_true_eq]
  omega
theorem find?_none_of (l : List E) (k : Int) (h : ∀ x ∈ l, x.key ≠ k) : l.find? (fun x => x.key == k) = none := by
  rw [List.find?_eq_none]
  intro x hx
  simpa using h x hx
theorem find_none (l : List E) (k : Int) (h : ∀ x ∈ l, x.key ≠ k) : find l k = zero k := by
  unfold find
  rw [find?_none_of l k h]
  rfl
theorem find_cons (x : E) (l : List E) (k : Int) : find (x :: l) k = if x.key = k then x else find l k := by
  unfold find
  by_cases h : x.key = k
  · rw [List.find?_cons_of_pos (by simpa using h), if_pos h]
    rfl
  · rw [List.find?_cons_of_neg (by simpa using h), if_neg h]
/-- a book is known by what is found in it -/
theorem book_ext : ∀ (l m : List E) (p : Int), chk p l = true → chk p m = true → (∀ k, find l k = find m k) → l = m
  | [], [], _, _, _, _ => rfl
  | [], y :: m, p, _, hm, h => by
    exfalso
    have hy := (chk_mem (y :: m) p hm y (by simp)).1
    rw [okE_iff] at hy
    have := h y.key
    rw [find_cons, if_pos rfl, find_none [] _ (by simp)] at this
    rw [← this] at hy
    have : (zero y.key).num = 0 := rfl
    omega
  | x :: l, [], p, hl, _, h => by
    exfalso
    have hx := (chk_mem (x :: l) p hl x (by simp)).1
    rw [okE_iff] at hx
    have := h x.key
    rw [find_cons, if_pos rfl, find_none [] _ (by simp)] at this
    rw [this] at hx
    have : (zero x.key).num = 0 := rfl
    omega
  | x :: l, y :: m, p, hl, hm, h => by
    have hx := (chk_mem (x :: l) p hl x (by simp)).1
    have hy := (chk_mem (y :: m) p hm y (by simp)).1
    rw [okE_iff] at hx hy
    unfold chk at hl hm
    rw [Bool.and_eq_true] at hl hm
    have hl2 := chk_mem l x.key hl.2
    have hm2 := chk_mem m y.key hm.2
    have hk : x.key = y.key := by
      rcases Int.lt_trichotomy x.key y.key with hlt | he | hgt
      · exfalso
        have := h x.key
        rw [find_cons, if_pos rfl, find_cons, if_neg (by omega), find_none m _ (fun z hz => by have := (hm2 z hz).2; omega)] at this
        rw [this] at hx
        have : (zero x.key).num = 0 := rfl
        omega
      · exact he
      · exfalso
        have := h y.key
        rw [find_cons, if_neg (by omega), find_cons, if_pos rfl, find_none l _ (fun z hz => by have := (hl2 z hz).2; omega)] at this
        rw [← this] at hy
        have : (zero y.key).num = 0 := rfl
        omega
    have hxy : x = y := by
      have := h x.key
      rwa [find_cons, if_pos rfl, find_cons, if_pos hk.symm] at this
    subst hxy
    congr 1
    refine book_ext l m x.key hl.2 hm.2 (fun k => ?_)
    by_cases hkk : x.key = k
    · rw [find_none l k (fun z hz => by have := (hl2 z hz).2; omega), find_none m k (fun z hz => by have := (hm2 z hz).2; omega)]
    · have := h k
      rwa [find_cons, if_neg hkk, find_cons, if_neg hkk] at this
/-- what is found in a book -/
theorem find_ok (l : List E) (h : isBook l = true) (k : Int) : (find l k).key = k ∧ ((find l k = zero k) ∨ (find l k ∈ l ∧ okE (find l k) = true)) := by
  refine ⟨find_key l k, ?_⟩
  rcases find_in l k with h1 | h1
  · exact Or.inr ⟨h1, (chk_mem l (-1) h _ h1).1⟩
  · exact Or.inl h1
theorem find_tag (l : List E) (h : isBook l = true) (k : Int) : (find l k = zero k ∧ (find l k).num = 0 ∧ (find l k).node = 0) ∨ (0 ≤ k ∧ k ≤ 3 ∧ 0 < (find l k).num ∧ (find l k).num ≤ 1000000 ∧ 0 ≤ (find l k).node ∧ (find l k).node ≤ 5 ∧ find l k ∈ l) := by
  obtain ⟨h1, h2 | ⟨h2, h3⟩⟩ := find_ok l h k
  · left; rw [h2]; exact ⟨rfl, rfl, rfl⟩
  · right
    rw [okE_iff, h1] at h3
    exact ⟨h3.1, h3.2.1, h3.2.2.1, h3.2.2.2.1, h3.2.2.2.2.1, h3.2.2.2.2.2, h2⟩
theorem chk_append : ∀ (l : List E) (p : Int) (x : E), chk p l = true → (∀ y ∈ l, y.key < x.key) → p < x.key → okE x = true → chk p (l ++ [x]) = true
  | [], p, x, _, _, hp, hx => by
    show ((okE x && decide (p < x.key)) && true) = true
    rw [hx, decide_eq_true hp]; rfl
  | y :: l, p, x, h, hl, hp, hx => by
    unfold chk at h
    rw [Bool.and_eq_true] at h
    show ((okE y && decide (p < y.key)) && chk y.key (l ++ [x])) = true
    rw [h.1, chk_append l y.key x h.2 (fun z hz => hl z (by simp [hz])) (hl y (by simp)) hx]
    rfl
theorem pick_in (a b : List E) (k : Int) : pick a b k = find a k ∨ pick a b k = find b k := by
  unfold pick; split <;> simp
theorem pick_tag (a b : List E) (ha : isBook a = true) (hb : isBook b = true) (k : Int) : (pick a b k).key = k ∧ ((pick a b k = zero k) ∨ (0 ≤ k ∧ k ≤ 3 ∧ okE (pick a b k) = true ∧ (pick a b k ∈ a ∨ pick a b k ∈ b))) := by
  rcases pick_in a b k with h | h <;> rw [h]
  · obtain ⟨h1, h2 | ⟨h2, h3⟩⟩ := find_ok a ha k
    · exact ⟨h1, Or.inl h2⟩
    · have := (okE_iff _).1 h3
      rw [h1] at this
      exact ⟨h1, Or.inr ⟨this.1, this.2.1, h3, Or.inl h2⟩⟩
  · obtain ⟨h1, h2 | ⟨h2, h3⟩⟩ := find_ok b hb k
    · exact ⟨h1, Or.inl h2⟩
    · have := (okE_iff _).1 h3
      rw [h1] at this
      exact ⟨h1, Or.inr ⟨this.1, this.2.1, h3, Or.inr h2⟩⟩
theorem zero_tag (k : Int) : (zero k).tag = (0, 0) := rfl
theorem ok_tag (x : E) (h : okE x = true) : x.tag ≠ (0, 0) := by
  rw [okE_iff] at h
  intro e
  have : x.num = 0 := congrArg Prod.fst e
  omega
theorem mergeK_mem (a b : List E) (ha : isBook a = true) (hb : isBook b = true) : ∀ k, k ≤ 4 → (isBook (mergeK a b k) = true ∧ (∀ x ∈ mergeK a b k, x.key < k ∧ (x ∈ a ∨ x ∈ b)) ∧ ∀ j : Int, (mergeK a b k).find? (fun x => x.key == j) = if 0 ≤ j ∧ j < k ∧ (pick a b j).tag ≠ (0, 0) then some (pick a b j) else none)
  | 0, _ => by
    refine ⟨rfl, fun x hx => ?_, fun j => ?_⟩
    · have hx : x ∈ ([] : List E) := hx
      cases hx
    · rw [if_neg (by omega)]; rfl
  | k + 1, hk => by
    obtain ⟨h1, h2, h3⟩ := mergeK_mem a b ha hb k (by omega)
    obtain ⟨p1, p2⟩ := pick_tag a b ha hb k
    have e : mergeK a b (k + 1) = mergeK a b k ++ if (pick a b k).tag = (0, 0) then [] else [pick a b k] := rfl
    rw [e]
    rcases p2 with p2 | ⟨q1, q2, q3, q4⟩
    · rw [p2, zero_tag, if_pos rfl, List.append_nil]
      refine ⟨h1, fun x hx => ⟨by have := (h2 x hx).1; omega, (h2 x hx).2⟩, fun j => ?_⟩
      rw [h3 j]
      by_cases hj : j = k
      · subst hj; rw [if_neg (by omega), if_neg (fun hc => hc.2.2 (by rw [p2]; rfl))]
      · by_cases hc : 0 ≤ j ∧ j < k ∧ (pick a b j).tag ≠ (0, 0)
        · rw [if_pos hc, if_pos ⟨hc.1, by omega, hc.2.2⟩]
        · rw [if_neg hc, if_neg (fun hd => hc ⟨hd.1, by omega, hd.2.2⟩)]
    · rw [if_neg (ok_tag _ q3)]
      refine ⟨chk_append _ _ _ h1 (fun y hy => by rw [p1]; exact (h2 y hy).1) (by rw [p1]; omega) q3, ?_, fun j => ?_⟩
      · intro x hx
        rcases List.mem_append.1 hx with hx | hx
        · exact ⟨by have := (h2 x hx).1; omega, (h2 x hx).2⟩
        · rw [List.mem_singleton] at hx
          subst hx
          exact ⟨by rw [p1]; omega, q4⟩
      · rw [List.find?_append, h3 j]
        by_cases hj : j = k
        · subst hj
          rw [if_neg (by omega), if_pos ⟨q1, by omega, ok_tag _ q3⟩]
          simp [p1]
        · have hn : [pick a b k].find? (fun x => x.key == j) = none := find?_none_of _ _ (by intro x hx; rw [List.mem_singleton] at hx; subst hx; rw [p1]; omega)
          rw [hn, Option.or_none]
          by_cases hc : 0 ≤ j ∧ j < k ∧ (pick a b j).tag ≠ (0, 0)
          · rw [if_pos hc, if_pos ⟨hc.1, by omega, hc.2.2⟩]
          · rw [if_neg hc, if_neg (fun hd => hc ⟨hd.1, by omega, hd.2.2⟩)]
theorem merge_book (a b : List E) (ha : isBook a = true) (hb : isBook b = true) : isBook (merge a b) = true := (mergeK_mem a b ha hb 4 (by omega)).1
theorem merge_mem (a b : List E) (ha : isBook a = true) (hb : isBook b = true) (x : E) (hx : x ∈ merge a b) : x ∈ a ∨ x ∈ b := ((mergeK_mem a b ha hb 4 (by omega)).2.1 x hx).2
theorem find_merge (a b : List E) (ha : isBook a = true) (hb : isBook b = true) (k : Int) : find (merge a b) k = pick a b k := by
  have h := (mergeK_mem a b ha hb 4 (by omega)).2.2 k
  show ((mergeK a b 4).find? _).getD _ = _
  rw [h]
  by_cases hc : 0 ≤ k ∧ k < (4 : Nat) ∧ (pick a b k).tag ≠ (0, 0)
  · rw [if_pos hc]; rfl
  · rw [if_neg hc]
    show zero k = _
    obtain ⟨_, h2 | ⟨q1, q2, q3, _⟩⟩ := pick_tag a b ha hb k
    · exact h2.symm
    · exfalso
      exact hc ⟨q1, by omega, ok_tag _ q3⟩
theorem less_self (t : Int × Int) : less t t = false := by rw [less_not]; omega
theorem merge_self (a : List E) (ha : isBook a = true) : merge a a = a := by
  refine book_ext _ _ (-1) (merge_book a a ha ha) ha (fun k => ?_)
  rw [find_merge a a ha ha]
  unfold pick
  split <;> rfl
theorem merge_assoc (a b c : List E) (ha : isBook a = true) (hb : isBook b = true) (hc : isBook c = true) : merge (merge a b) c = merge a (merge b c) := by
  have hab := merge_book a b ha hb
  have hbc := merge_book b c hb hc
  refine book_ext _ _ (-1) (merge_book _ _ hab hc) (merge_book _ _ ha hbc) (fun k => ?_)
  rw [find_merge _ _ hab hc, find_merge _ _ ha hbc]
  have e1 : pick (merge a b) c k = if less (pick a b k).tag (find c k).tag then find c k else pick a b k := by rw [← find_merge a b ha hb]; rfl
  have e2 : pick a (merge b c) k = if less (find a k).tag (pick b c k).tag then pick b c k else find a k := by rw [← find_merge b c hb hc]; rfl
  rw [e1, e2]
  unfold pick
  generalize find a k = x
  generalize find b k = y
  generalize find c k = z
  cases h1 : less x.tag y.tag <;> cases h2 : less y.tag z.tag <;> cases h3 : less x.tag z.tag <;> simp only [h1, h2, h3, if_true, if_false, Bool.false_eq_true]
  · exfalso; rw [less_not] at h1 h2; rw [less_iff] at h3; omega
  · exfalso; rw [less_iff] at h1 h2; rw [less_not] at h3; omega
/-- is one within another? of each key no newer tag -/
theorem within_iff (a b : List E) (ha : isBook a = true) (hb : isBook b = true) : within a b = true ↔ ∀ k, less (find b k).tag (find a k).tag = false := by
  unfold within
  rw [List.all_eq_true]
  constructor
  · intro h k
    rcases find_tag a ha k with ⟨_, h1, h2⟩ | ⟨_, _, _, _, _, _, h1⟩
    · rw [less_not]
      unfold E.tag
      simp only
      rcases find_tag b hb k with ⟨_, h3, h4⟩ | ⟨_, _, h3, _, h4, _⟩ <;> omega
    · have := h _ h1
      unfold isNew at this
      rw [find_key] at this
      simpa using this
  · intro h x hx
    have := h x.key
    rw [find_of_mem a (-1) ha x hx] at this
    unfold isNew
    rw [this]
    rfl
theorem bool_eq_iff (a b : Bool) (h : a = true ↔ b = true) : a = b := Bool.eq_iff_iff.2 h
theorem within_l (a b : List E) (ha : isBook a = true) (hb : isBook b = true) : within a (merge a b) = true := by
  rw [within_iff a _ ha (merge_book a b ha hb)]
  intro k
  rw [find_merge a b ha hb, less_not]
  unfold pick
  split
  · rename_i h; rw [less_iff] at h; omega
  · omega
theorem within_r2 (a b : List E) (ha : isBook a = true) (hb : isBook b = true) : within b (merge a b) = true := by
  rw [within_iff b _ hb (merge_book a b ha hb)]
  intro k
  rw [find_merge a b ha hb, less_not]
  unfold pick
  split
  · omega
  · rename_i h; rw [Bool.not_eq_true, less_not] at h; exact h
theorem within_least (a b c : List E) (ha : isBook a = true) (hb : isBook b = true) (hc : isBook c = true) (h : within a c = true) : within (merge a b) c = within b c := by
  refine bool_eq_iff _ _ ?_
  rw [within_iff a c ha hc] at h
  rw [within_iff _ c (merge_book a b ha hb) hc, within_iff b c hb hc]
  constructor
  · intro hm k
    have h1 := h k
    have h2 := hm k
    rw [find_merge a b ha hb] at h2
    unfold pick at h2
    rw [less_not] at *
    split at h2
    · exact h2
    · rename_i h3; rw [Bool.not_eq_true, less_not] at h3; omega
  · intro hb2 k
    have h1 := h k
    have h2 := hb2 k
    rw [find_merge a b ha hb]
    unfold pick
    split
    · exact h2
    · exact h1
theorem same_find : ∀ (l m : List E), same l m = true → ∀ k, (find l k).tag = (find m k).tag
  | [], [], _, k => rfl
  | [], _ :: _, h, _ => by simp [same] at h
  | _ :: _, [], h, _ => by simp [same] at h
  | x :: l, y :: m, h, k => by
    unfold same at h
    rw [Bool.and_eq_true, alike_iff] at h
    rw [find_cons, find_cons, h.1.1]
    split
    · unfold E.tag; rw [h.1.2.1, h.1.2.2.1]
    · exact same_find l m h.2 k
theorem within_same (a b : List E) (ha : isBook a = true) (hb : isBook b = true) : within b a = same (merge a b) a := by
  refine bool_eq_iff _ _ ?_
  rw [within_iff b a hb ha]
  constructor
  · intro h
    have : merge a b = a := by
      refine book_ext _ _ (-1) (merge_book a b ha hb) ha (fun k => ?_)
      rw [find_merge a b ha hb]
      unfold pick
      rw [h k]
      rfl
    rw [this]
    exact same_refl a
  · intro h k
    have := same_find _ _ h k
    rw [find_merge a b ha hb] at this
    unfold pick at this
    cases hx : less (find a k).tag (find b k).tag with
    | false => rfl
    | true =>
      rw [hx, if_pos rfl] at this
      rw [this, less_self] at hx
      cases hx
theorem news_zero (old l : List E) : decide ((news old l).length = 0) = within l old := by
  refine bool_eq_iff _ _ ?_
  rw [decide_eq_true_iff]
  unfold news within
  rw [List.length_eq_zero_iff, List.filter_eq_nil_iff, List.all_eq_true]
  constructor
  · intro h x hx
    have := h x hx
    simpa using this
  · intro h x hx
    have := h x hx
    simpa using this
theorem chk_filter : ∀ (l : List E) (p : Int) (q : E → Bool), chk p l = true → chk p (l.filter q) = true
  | [], _, _, _ => rfl
  | x :: l, p, q, h => by
    have hm := chk_mem (x :: l) p h
    unfold chk at h
    rw [Bool.and_eq_true] at h
    rw [List.filter_cons]
    split
    · show ((okE x && decide (p < x.key)) && chk x.key (l.filter q)) = true
      rw [h.1, chk_filter l x.key q h.2]; rfl
    · refine chk_filter l p q ?_
      exact chk_less l x.key p h.2 (by have := (hm x (by simp)).2; omega)
where chk_less : ∀ (l : List E) (p r : Int), chk p l = true → r ≤ p → chk r l = true
  | [], _, _, _, _ => rfl
  | x :: l, p, r, h, hr => by
    unfold chk at h ⊢
    rw [Bool.and_eq_true, Bool.and_eq_true, decide_eq_true_iff] at h
    rw [h.1.1, h.2, decide_eq_true (by omega)]; rfl
theorem news_book (old l : List E) (h : isBook l = true) : isBook (news old l) = true := chk_filter l (-1) _ h
theorem news_mem (old l : List E) (x : E) (hx : x ∈ news old l) : x ∈ l ∧ isNew old x = true := by
  unfold news at hx
  exact List.mem_filter.1 hx
theorem find_news (old l : List E) (hl : isBook l = true) (k : Int) : find (news old l) k = if isNew old (find l k) ∧ (find l k).tag ≠ (0, 0) then find l k else zero k := by
  have hn := news_book old l hl
  rcases find_tag l hl k with ⟨h1, _, _⟩ | ⟨_, _, h3, _, _, _, h1⟩
  · rw [if_neg (fun hc => hc.2 (by rw [h1]; rfl))]
    refine find_none _ _ (fun x hx he => ?_)
    have hx := (news_mem old l x hx).1
    have := find_of_mem l (-1) hl x hx
    rw [he, h1] at this
    have ho := (chk_mem l (-1) hl x hx).1
    rw [okE_iff, ← this] at ho
    have : (zero k).num = 0 := rfl
    omega
  · have hz : (find l k).tag ≠ (0, 0) := fun hz => by have : (find l k).num = 0 := congrArg Prod.fst hz; omega
    by_cases hi : isNew old (find l k) = true
    · rw [if_pos ⟨hi, hz⟩]
      have hm : find l k ∈ news old l := by unfold news; exact List.mem_filter.2 ⟨h1, hi⟩
      have := find_of_mem _ (-1) hn _ hm
      rwa [find_key] at this
    · rw [if_neg (fun hc => hi hc.1)]
      refine find_none _ _ (fun x hx he => ?_)
      have hx := news_mem old l x hx
      have := find_of_mem l (-1) hl x hx.1
      rw [he] at this
      rw [this] at hi
      exact hi hx.2
theorem merge_news (old l : List E) (ho : isBook old = true) (hl : isBook l = true) : merge old (news old l) = merge old l := by
  have hn := news_book old l hl
  refine book_ext _ _ (-1) (merge_book _ _ ho hn) (merge_book _ _ ho hl) (fun k => ?_)
  rw [find_merge _ _ ho hn, find_merge _ _ ho hl]
  unfold pick
  rw [find_news old l hl]
  unfold isNew
  rw [find_key]
  have h0 : less (find old k).tag (zero k).tag = false := by
    rw [less_not]
    unfold E.tag zero
    simp only
    rcases find_tag old ho k with ⟨_, h3, h4⟩ | ⟨_, _, h3, _, h4, _⟩ <;> omega
  cases hx : less (find old k).tag (find l k).tag with
  | false =>
    have : (if false = true ∧ (find l k).tag ≠ (0, 0) then find l k else zero k) = zero k := if_neg (by simp)
    rw [this, h0]
    rfl
  | true =>
    have hz : (find l k).tag ≠ (0, 0) := fun hz => by rw [hz] at hx; rw [zero_tag, hx] at h0; cases h0
    have : (if true = true ∧ (find l k).tag ≠ (0, 0) then find l k else zero k) = find l k := if_pos ⟨rfl, hz⟩
    rw [this, hx]
end Go.Proofs.Ytjcpdhekilkhgaa.Bk
