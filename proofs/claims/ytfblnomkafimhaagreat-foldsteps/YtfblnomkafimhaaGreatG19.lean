/- Contracts and words on which the claims of this seat stand, part 19: ClP ClQ ClW ClR. -/
import Derived.Test.YtfblnomkafimhaaGreatG04
import Derived.Test.YtfblnomkafimhaaGreatG07
import Derived.Test.YtfblnomkafimhaaGreatG18
import Derived.Lib.SlicesCompact
import Derived.Laws.StructEq
set_option linter.unusedSimpArgs false
set_option linter.unusedVariables false
namespace Go.Proofs.YtfblnomkafimhaaGreat.Cl
set_option maxRecDepth 20000
open Chg Vw

/-- a cell: its node, which are added, which are deleted -/
abbrev C := Int × Int × Int
def rvC (a d : Int) : Bool := decide (0 ≤ a ∧ a ≤ 63 ∧ 0 ≤ d ∧ d ≤ 63)
def okC (x : C) : Bool := decide (0 ≤ x.1 ∧ x.1 ≤ 5) && (rvC x.2.1 x.2.2 && !(x.2.1 == 0 && x.2.2 == 0))
/-- cells behind a node -/
def chkC (last : Int) : List C → Bool
  | [] => true
  | x :: l => (okC x && decide (last < x.1)) && chkC x.1 l
def isCl (l : List C) : Bool := chkC (-1) l
def chkM (l : List C) : Int := if isCl l then 0 else 101
def fnd (l : List C) (k : Int) : Option C := l.find? fun x => x.1 == k
def hasC (l : List C) (k : Int) : Bool := (fnd l k).isSome
def getC (l : List C) (k : Int) : C := (fnd l k).getD (k, 0, 0)
def pickC (a b : List C) (k : Int) : C := if hasC a k then getC a k else getC b k
/-- the first k nodes of two merged -/
def mergeKC (a b : List C) : Nat → List C
  | 0 => []
  | k + 1 => mergeKC a b k ++ if hasC a k || hasC b k then [pickC a b k] else []
def mergeC (a b : List C) : List C := mergeKC a b 6
def newsC (old l : List C) : List C := l.filter fun x => !hasC old x.1
def newsKC (old l : List C) : Nat → List C
  | 0 => []
  | k + 1 => newsKC old l k ++ if hasC l k && !hasC old k then [getC l k] else []
/-- has a node unlike changes in both? -/
def clashAt (a b : List C) (k : Int) : Bool := (hasC a k && hasC b k) && !((getC a k).2.1 == (getC b k).2.1 && (getC a k).2.2 == (getC b k).2.2)
def clashK (a b : List C) : Nat → Bool
  | 0 => false
  | k + 1 => clashK a b k || clashAt a b k
def clashC (a b : List C) : Bool := clashK a b 6
def sameC : List C → List C → Bool
  | [], [] => true
  | x :: a, y :: b => (x.1 == y.1 && (x.2.1 == y.2.1 && x.2.2 == y.2.2)) && sameC a b
  | _, _ => false
theorem sameC_eq : ∀ (a b : List C), sameC a b = true ↔ a = b
  | [], [] => by simp [sameC]
  | [], _ :: _ => by simp [sameC]
  | _ :: _, [] => by simp [sameC]
  | (x, y, z) :: a, (x', y', z') :: b => by
    unfold sameC
    simp only [Bool.and_eq_true, beq_iff_eq, sameC_eq a b, List.cons.injEq, Prod.mk.injEq]
theorem sameC_refl (a : List C) : sameC a a = true := (sameC_eq a a).2 rfl
theorem okC_iff (x : C) : okC x = true ↔ (0 ≤ x.1 ∧ x.1 ≤ 5) ∧ rvC x.2.1 x.2.2 = true ∧ ¬ (x.2.1 = 0 ∧ x.2.2 = 0) := by
  unfold okC
  simp only [Bool.and_eq_true, decide_eq_true_eq, Bool.not_eq_true', Bool.and_eq_false_iff, beq_eq_false_iff_ne]
  constructor
  · rintro ⟨h1, h2, h3⟩; exact ⟨h1, h2, by omega⟩
  · rintro ⟨h1, h2, h3⟩; exact ⟨h1, h2, by omega⟩
theorem chkC_mem : ∀ (l : List C) (last : Int), chkC last l = true → ∀ x ∈ l, okC x = true ∧ last < x.1
  | [], _, _, x, hx => by cases hx
  | y :: l, last, h, x, hx => by
    unfold chkC at h
    rw [Bool.and_eq_true, Bool.and_eq_true, decide_eq_true_iff] at h
    rcases List.mem_cons.1 hx with rfl | hx
    · exact ⟨h.1.1, h.1.2⟩
    · have := chkC_mem l y.1 h.2 x hx
      exact ⟨this.1, by omega⟩
theorem isCl_mem {l : List C} (h : isCl l = true) {x : C} (hx : x ∈ l) : okC x = true := (chkC_mem l (-1) h x hx).1
theorem fnd_cons (x : C) (l : List C) (k : Int) : fnd (x :: l) k = if x.1 = k then some x else fnd l k := by
  unfold fnd
  by_cases h : x.1 = k
  · rw [List.find?_cons_of_pos (by simpa using h), if_pos h]
  · rw [List.find?_cons_of_neg (by simpa using h), if_neg h]
theorem fnd_none (l : List C) (k : Int) (h : ∀ x ∈ l, x.1 ≠ k) : fnd l k = none := by
  unfold fnd
  rw [List.find?_eq_none]
  intro x hx
  simpa using h x hx
theorem fnd_some {l : List C} {k : Int} {x : C} (h : fnd l k = some x) : x ∈ l ∧ x.1 = k :=
  ⟨List.mem_of_find?_eq_some h, by simpa using List.find?_some h⟩
theorem fnd_mem : ∀ (l : List C) (last : Int), chkC last l = true → ∀ x ∈ l, fnd l x.1 = some x
  | [], _, _, x, hx => by cases hx
  | y :: l, last, h, x, hx => by
    have hc := h
    unfold chkC at h
    rw [Bool.and_eq_true, Bool.and_eq_true] at h
    rw [fnd_cons]
    rcases List.mem_cons.1 hx with rfl | hx
    · rw [if_pos rfl]
    · have h2 := (chkC_mem l y.1 h.2 x hx).2
      rw [if_neg (by omega)]
      exact fnd_mem l y.1 h.2 x hx
theorem cl_ext : ∀ (l m : List C) (p : Int), chkC p l = true → chkC p m = true → (∀ k, fnd l k = fnd m k) → l = m
  | [], [], _, _, _, _ => rfl
  | [], y :: m, p, _, hm, h => by
    have := h y.1
    rw [fnd_cons, if_pos rfl] at this
    cases this
  | x :: l, [], p, hl, _, h => by
    have := h x.1
    rw [fnd_cons, if_pos rfl] at this
    cases this
  | x :: l, y :: m, p, hl, hm, h => by
    unfold chkC at hl hm
    rw [Bool.and_eq_true] at hl hm
    have hl2 := chkC_mem l x.1 hl.2
    have hm2 := chkC_mem m y.1 hm.2
    have hk : x.1 = y.1 := by
      rcases Int.lt_trichotomy x.1 y.1 with hlt | he | hgt
      · exfalso
        have := h x.1
        rw [fnd_cons, if_pos rfl, fnd_cons, if_neg (by omega), fnd_none m _ (fun z hz => by have := (hm2 z hz).2; omega)] at this
        cases this
      · exact he
      · exfalso
        have := h y.1
        rw [fnd_cons, if_neg (by omega), fnd_cons, if_pos rfl, fnd_none l _ (fun z hz => by have := (hl2 z hz).2; omega)] at this
        cases this
    have hxy : x = y := by
      have := h x.1
      rw [fnd_cons, if_pos rfl, fnd_cons, if_pos hk.symm] at this
      exact Option.some.inj this
    subst hxy
    congr 1
    refine cl_ext l m x.1 hl.2 hm.2 (fun k => ?_)
    by_cases hkk : x.1 = k
    · rw [fnd_none l k (fun z hz => by have := (hl2 z hz).2; omega), fnd_none m k (fun z hz => by have := (hm2 z hz).2; omega)]
    · have := h k
      rwa [fnd_cons, if_neg hkk, fnd_cons, if_neg hkk] at this
theorem chkC_append : ∀ (l : List C) (p : Int) (x : C), chkC p l = true → (∀ y ∈ l, y.1 < x.1) → p < x.1 → okC x = true → chkC p (l ++ [x]) = true
  | [], p, x, _, _, hp, hx => by
    show ((okC x && decide (p < x.1)) && true) = true
    rw [hx, decide_eq_true hp]; rfl
  | y :: l, p, x, h, hl, hp, hx => by
    unfold chkC at h
    rw [Bool.and_eq_true] at h
    show ((okC y && decide (p < y.1)) && chkC y.1 (l ++ [x])) = true
    rw [h.1, chkC_append l y.1 x h.2 (fun z hz => hl z (by simp [hz])) (hl y (by simp)) hx]
    rfl
theorem getC_some {l : List C} {k : Int} {x : C} (h : fnd l k = some x) : getC l k = x := by unfold getC; rw [h]; rfl
theorem hasC_some {l : List C} {k : Int} {x : C} (h : fnd l k = some x) : hasC l k = true := by unfold hasC; rw [h]; rfl
theorem hasC_none {l : List C} {k : Int} (h : fnd l k = none) : hasC l k = false := by unfold hasC; rw [h]; rfl
theorem getC_none {l : List C} {k : Int} (h : fnd l k = none) : getC l k = (k, 0, 0) := by unfold getC; rw [h]; rfl
theorem getC_node (l : List C) (k : Int) : (getC l k).1 = k := by
  cases h : fnd l k with
  | none => rw [getC_none h]
  | some x => rw [getC_some h]; exact (fnd_some h).2
/-- a list of these nodes, each node's cell by a function -/
theorem byK (F : Int → Option C) (hF : ∀ k x, F k = some x → x.1 = k ∧ okC x = true) : ∀ (k : Nat) (L : Nat → List C), k ≤ 6 → L 0 = [] → (∀ j, j < k → L (j + 1) = L j ++ (F (j : Int)).toList) →
    isCl (L k) = true ∧ (∀ x ∈ L k, x.1 < k) ∧ ∀ j : Int, fnd (L k) j = if j < k ∧ 0 ≤ j then F j else none
  | 0, L, _, h0, _ => by
    rw [h0]
    refine ⟨rfl, fun x hx => by simp at hx, fun j => ?_⟩
    rw [if_neg (by omega)]
    rfl
  | k + 1, L, hk, h0, hL => by
    obtain ⟨h1, h2, h3⟩ := byK F hF k L (by omega) h0 (fun j hj => hL j (by omega))
    rw [hL k (by omega)]
    cases hf : F (k : Int) with
    | none =>
      show isCl (L k ++ []) = true ∧ _
      rw [Option.toList_none, List.append_nil]
      refine ⟨h1, fun x hx => by have := h2 x hx; omega, fun j => ?_⟩
      rw [h3 j]
      by_cases hj : j = (k : Int)
      · subst hj
        rw [if_neg (by omega), if_pos (by omega), hf]
      · by_cases hc : j < (k : Int) ∧ 0 ≤ j
        · rw [if_pos hc, if_pos (by omega)]
        · rw [if_neg hc, if_neg (by omega)]
    | some x =>
      obtain ⟨hn, hok⟩ := hF _ _ hf
      rw [Option.toList_some]
      refine ⟨chkC_append _ _ _ h1 (fun y hy => by rw [hn]; exact h2 y hy) (by rw [hn]; omega) hok, ?_, fun j => ?_⟩
      · intro y hy
        rcases List.mem_append.1 hy with hy | hy
        · have := h2 y hy; omega
        · rw [List.mem_singleton] at hy
          subst hy
          rw [hn]; omega
      · have e : fnd (L k ++ [x]) j = (fnd (L k) j).or (fnd [x] j) := by unfold fnd; rw [List.find?_append]
        rw [e, h3 j]
        by_cases hj : j = (k : Int)
        · subst hj
          rw [if_neg (by omega), if_pos (by omega), hf, fnd_cons, if_pos hn]
          rfl
        · have e2 : fnd [x] j = none := by rw [fnd_cons, if_neg (by rw [hn]; omega)]; rfl
          rw [e2, Option.or_none]
          by_cases hc : j < (k : Int) ∧ 0 ≤ j
          · rw [if_pos hc, if_pos (by omega)]
          · rw [if_neg hc, if_neg (by omega)]
/-- nodes of cells -/
theorem fnd_ok {l : List C} (h : isCl l = true) {k : Int} {x : C} (hf : fnd l k = some x) : x.1 = k ∧ okC x = true ∧ 0 ≤ k ∧ k ≤ 5 := by
  have h1 := fnd_some hf
  have h2 := isCl_mem h h1.1
  have := ((okC_iff x).1 h2).1
  refine ⟨h1.2, h2, ?_⟩
  rw [← h1.2]
  exact this
theorem fnd_out {l : List C} (h : isCl l = true) {k : Int} (hk : ¬ (k < 6 ∧ 0 ≤ k)) : fnd l k = none := by
  cases hf : fnd l k with
  | none => rfl
  | some x => have := fnd_ok h hf; omega
theorem pick_toList (a b : List C) (k : Int) : (if hasC a k || hasC b k then [pickC a b k] else []) = ((fnd a k).or (fnd b k)).toList := by
  unfold pickC
  cases ha : fnd a k with
  | some x => rw [hasC_some ha, getC_some ha]; rfl
  | none =>
    rw [hasC_none ha]
    cases hb : fnd b k with
    | some y => rw [hasC_some hb, getC_some hb]; rfl
    | none => rw [hasC_none hb]; rfl
theorem new_toList (a b : List C) (k : Int) : (if hasC b k && !hasC a k then [getC b k] else []) = (if hasC a k then none else fnd b k).toList := by
  cases ha : hasC a k with
  | true => simp
  | false =>
    cases hb : fnd b k with
    | some y => rw [hasC_some hb, getC_some hb]; simp
    | none => rw [hasC_none hb]; simp
theorem mergeKC_all (a b : List C) (ha : isCl a = true) (hb : isCl b = true) : isCl (mergeC a b) = true ∧ ∀ k, fnd (mergeC a b) k = (fnd a k).or (fnd b k) := by
  have h := byK (fun k => (fnd a k).or (fnd b k)) (fun k x hx => by
    cases hf : fnd a k with
    | some y =>
      rw [hf] at hx
      cases hx
      have := fnd_ok ha hf
      exact ⟨this.1, this.2.1⟩
    | none =>
      rw [hf, Option.none_or] at hx
      have := fnd_ok hb hx
      exact ⟨this.1, this.2.1⟩) 6 (mergeKC a b) (by omega) rfl (fun j _ => by
    show mergeKC a b j ++ (if hasC a j || hasC b j then [pickC a b j] else []) = _
    rw [pick_toList])
  refine ⟨h.1, fun k => ?_⟩
  show fnd (mergeKC a b 6) k = _
  rw [h.2.2 k]
  by_cases hk : k < 6 ∧ 0 ≤ k
  · exact if_pos hk
  · rw [if_neg (by simpa using hk), fnd_out ha hk, fnd_out hb hk]
    rfl
theorem merge_cl {a b : List C} (ha : isCl a = true) (hb : isCl b = true) : isCl (mergeC a b) = true := (mergeKC_all a b ha hb).1
theorem fnd_merge {a b : List C} (ha : isCl a = true) (hb : isCl b = true) (k : Int) : fnd (mergeC a b) k = (fnd a k).or (fnd b k) := (mergeKC_all a b ha hb).2 k
theorem chkC_filter : ∀ (l : List C) (p : Int) (q : C → Bool), chkC p l = true → chkC p (l.filter q) = true
  | [], _, _, _ => rfl
  | x :: l, p, q, h => by
    have hm := chkC_mem (x :: l) p h
    unfold chkC at h
    rw [Bool.and_eq_true] at h
    rw [List.filter_cons]
    split
    · show ((okC x && decide (p < x.1)) && chkC x.1 (l.filter q)) = true
      rw [h.1, chkC_filter l x.1 q h.2]; rfl
    · refine chkC_filter l p q ?_
      exact less l x.1 p h.2 (by have := (hm x (by simp)).2; omega)
where less : ∀ (l : List C) (p r : Int), chkC p l = true → r ≤ p → chkC r l = true
  | [], _, _, _, _ => rfl
  | x :: l, p, r, h, hr => by
    unfold chkC at h ⊢
    rw [Bool.and_eq_true, Bool.and_eq_true, decide_eq_true_iff] at h
    rw [h.1.1, h.2, decide_eq_true (by omega)]; rfl
theorem news_cl {old l : List C} (h : isCl l = true) : isCl (newsC old l) = true := chkC_filter l (-1) _ h
theorem fnd_news {old l : List C} (h : isCl l = true) (k : Int) : fnd (newsC old l) k = if hasC old k then none else fnd l k := by
  by_cases ho : hasC old k = true
  · rw [if_pos ho]
    refine fnd_none _ _ (fun x hx he => ?_)
    have := (List.mem_filter.1 hx).2
    rw [he, ho] at this
    cases this
  · rw [if_neg ho]
    cases hf : fnd l k with
    | none =>
      refine fnd_none _ _ (fun x hx he => ?_)
      have hm := (List.mem_filter.1 hx).1
      have := fnd_mem l (-1) h x hm
      rw [he, hf] at this
      cases this
    | some x =>
      have hx := fnd_some hf
      have hm : x ∈ newsC old l := List.mem_filter.2 ⟨hx.1, by rw [hx.2]; simpa using ho⟩
      have := fnd_mem _ (-1) (news_cl h) x hm
      rwa [hx.2] at this
theorem newsKC_eq {old l : List C} (h : isCl l = true) : newsKC old l 6 = newsC old l := by
  have hb := byK (fun k => if hasC old k then none else fnd l k) (fun k x hx => by
    split at hx
    · cases hx
    · have := fnd_ok h hx
      exact ⟨this.1, this.2.1⟩) 6 (newsKC old l) (by omega) rfl (fun j _ => by
    show newsKC old l j ++ (if hasC l j && !hasC old j then [getC l j] else []) = _
    rw [new_toList])
  refine cl_ext _ _ (-1) hb.1 (news_cl h) (fun k => ?_)
  rw [hb.2.2 k, fnd_news h]
  by_cases hk : k < 6 ∧ 0 ≤ k
  · exact if_pos hk
  · rw [if_neg (by simpa using hk), fnd_out h hk]
    split <;> rfl
theorem mergeKC_len (a b : List C) : ∀ k, (mergeKC a b k).length ≤ k
  | 0 => Nat.le_refl _
  | k + 1 => by
    show (mergeKC a b k ++ _).length ≤ _
    rw [List.length_append]
    have := mergeKC_len a b k
    split <;> simp <;> omega
theorem newsKC_len (a b : List C) : ∀ k, (newsKC a b k).length ≤ k
  | 0 => Nat.le_refl _
  | k + 1 => by
    show (newsKC a b k ++ _).length ≤ _
    rw [List.length_append]
    have := newsKC_len a b k
    split <;> simp <;> omega
theorem merge_nil {a : List C} (ha : isCl a = true) : mergeC a [] = a := by
  refine cl_ext _ _ (-1) (merge_cl ha rfl) ha (fun k => ?_)
  rw [fnd_merge ha rfl, show fnd [] k = none from rfl, Option.or_none]
theorem clashAt_iff (a b : List C) (k : Int) : clashAt a b k = true ↔ ∃ x y, fnd a k = some x ∧ fnd b k = some y ∧ x ≠ y := by
  unfold clashAt
  cases ha : fnd a k with
  | none => rw [hasC_none ha]; simp
  | some x =>
    rw [hasC_some ha, getC_some ha]
    cases hb : fnd b k with
    | none => rw [hasC_none hb]; simp
    | some y =>
      rw [hasC_some hb, getC_some hb]
      have h1 := (fnd_some ha).2
      have h2 := (fnd_some hb).2
      obtain ⟨x1, x2, x3⟩ := x
      obtain ⟨y1, y2, y3⟩ := y
      simp only at h1 h2
      subst h1
      subst h2
      simp only [Bool.and_self, Bool.true_and, Bool.not_eq_true', Bool.and_eq_false_iff, beq_eq_false_iff_ne, Option.some.injEq]
      constructor
      · intro h
        refine ⟨_, _, rfl, rfl, fun e => ?_⟩
        simp only [Prod.mk.injEq] at e
        omega
      · rintro ⟨_, _, rfl, rfl, h⟩
        by_cases e : x2 = y2
        · by_cases e2 : x3 = y3
          · subst e; subst e2; exact absurd rfl h
          · exact Or.inr e2
        · exact Or.inl e
theorem clashK_iff (a b : List C) : ∀ k, clashK a b k = true ↔ ∃ j : Nat, j < k ∧ clashAt a b j = true
  | 0 => by simp [clashK]
  | k + 1 => by
    unfold clashK
    rw [Bool.or_eq_true, clashK_iff a b k]
    constructor
    · rintro (⟨j, hj, h⟩ | h)
      · exact ⟨j, by omega, h⟩
      · exact ⟨k, by omega, h⟩
    · rintro ⟨j, hj, h⟩
      by_cases e : j = k
      · subst e; exact Or.inr h
      · exact Or.inl ⟨j, by omega, h⟩
theorem clashC_not {a b : List C} (ha : isCl a = true) : clashC a b = false ↔ ∀ k x y, fnd a k = some x → fnd b k = some y → x = y := by
  rw [← Bool.not_eq_true]
  unfold clashC
  rw [clashK_iff]
  constructor
  · intro h k x y hx hy
    by_cases e : x = y
    · exact e
    · exfalso
      have := fnd_ok ha hx
      obtain ⟨j, rfl⟩ : ∃ j : Nat, k = j := ⟨k.toNat, by omega⟩
      exact h ⟨j, by omega, (clashAt_iff a b _).2 ⟨x, y, hx, hy, e⟩⟩
  · rintro h ⟨j, _, hj⟩
    obtain ⟨x, y, hx, hy, hne⟩ := (clashAt_iff a b _).1 hj
    exact hne (h _ x y hx hy)
/-- how many of the first k nodes have a cell -/
def lenC (a : List C) : Nat → Nat
  | 0 => 0
  | k + 1 => lenC a k + if hasC a k then 1 else 0
theorem cl_len {a : List C} (ha : isCl a = true) : a.length ≤ 6 := by
  rw [← merge_nil ha]
  exact mergeKC_len a [] 6
end Go.Proofs.YtfblnomkafimhaaGreat.Cl

namespace Go.Proofs.YtfblnomkafimhaaGreat.Cl
set_option maxRecDepth 20000
open Chg Vw

abbrev V := Nat × Nat
/-- m has what vs has, each once, in order -/
def Srt (vs m : List V) : Prop := m.Pairwise (fun u v => less u v = true) ∧ ∀ v, v ∈ m ↔ v ∈ vs
def toV2 (x : C) : V := (x.2.1.toNat, x.2.2.toNat)
def chgs (l : List C) : List V := l.map toV2
theorem less_irr (v : V) : less v v = false := by rw [← Bool.not_eq_true, less_iff]; omega
theorem less_tr {u v x : V} (h1 : less u v = true) (h2 : less v x = true) : less u x = true := by rw [less_iff] at *; omega
theorem less_tri {u v : V} (hu : u.1 < 64 ∧ u.2 < 64) (hv : v.1 < 64 ∧ v.2 < 64) (h1 : less u v = false) (h2 : u ≠ v) : less v u = true := by
  rw [← Bool.not_eq_true, less_iff] at h1
  rw [less_iff]
  by_cases e : name2 u = name2 v
  · exfalso
    apply h2
    unfold name2 at e
    rw [Prod.ext_iff]
    omega
  · omega
theorem srt_eq : ∀ (l m : List V), l.Pairwise (fun u v => less u v = true) → m.Pairwise (fun u v => less u v = true) → (∀ v, v ∈ l ↔ v ∈ m) → l = m
  | [], [], _, _, _ => rfl
  | [], y :: m, _, _, h => by have := (h y).2 (by simp); simp at this
  | x :: l, [], _, _, h => by have := (h x).1 (by simp); simp at this
  | x :: l, y :: m, hl, hm, h => by
    rw [List.pairwise_cons] at hl hm
    have hxy : x = y := by
      have h1 := (h x).1 (by simp)
      have h2 := (h y).2 (by simp)
      rcases List.mem_cons.1 h1 with e | h1
      · exact e
      · rcases List.mem_cons.1 h2 with e | h2
        · exact e.symm
        · have := less_tr (hm.1 x h1) (hl.1 y h2)
          rw [less_irr] at this
          cases this
    subst hxy
    congr 1
    refine srt_eq l m hl.2 hm.2 (fun v => ?_)
    constructor
    · intro hv
      rcases List.mem_cons.1 ((h v).1 (by simp [hv])) with e | h'
      · exfalso
        have := hl.1 v hv
        rw [e, less_irr] at this
        cases this
      · exact h'
    · intro hv
      rcases List.mem_cons.1 ((h v).2 (by simp [hv])) with e | h'
      · exfalso
        have := hm.1 v hv
        rw [e, less_irr] at this
        cases this
      · exact h'
theorem Srt.eq {vs l m : List V} (h1 : Srt vs l) (h2 : Srt vs m) : l = m := srt_eq l m h1.1 h2.1 (fun v => (h1.2 v).trans (h2.2 v).symm)
theorem len_sub : ∀ (l m : List V), l.Pairwise (fun u v => less u v = true) → (∀ v ∈ l, v ∈ m) → l.length ≤ m.length
  | [], _, _, _ => Nat.zero_le _
  | x :: l, m, hl, h => by
    rw [List.pairwise_cons] at hl
    have hx := h x (by simp)
    have ih := len_sub l (m.erase x) hl.2 (fun v hv => by
      have hne : v ≠ x := by
        rintro rfl
        have := hl.1 v hv
        rw [less_irr] at this
        cases this
      rw [List.mem_erase_of_ne hne]
      exact h v (by simp [hv]))
    rw [List.length_erase_of_mem hx] at ih
    have : 0 < m.length := List.length_pos_of_mem hx
    rw [List.length_cons]
    omega
theorem Srt.len {vs m : List V} (h : Srt vs m) : m.length ≤ vs.length := len_sub m vs h.1 (fun v hv => (h.2 v).1 hv)
theorem Srt.more {vs vs' m m' : List V} (h : Srt vs m) (h' : Srt vs' m') (hs : ∀ v ∈ vs, v ∈ vs') : m.length ≤ m'.length :=
  len_sub m m' h.1 (fun v hv => (h'.2 v).2 (hs v ((h.2 v).1 hv)))
/-- what the document's Changes has found up to now -/
def Sel (vs out : List V) : Prop := out.Pairwise (fun u v => less u v = true) ∧ (∀ v ∈ out, v ∈ vs) ∧ ∀ v ∈ vs, v ∉ out → ∀ u ∈ out, less u v = true
theorem Sel.step {vs out : List V} (h : Sel vs out) (hs : ∀ v ∈ vs, v.1 < 64 ∧ v.2 < 64) {b : V} (hb : b ∈ vs) (hn : b ∉ out) (hm : ∀ v ∈ vs, v ∉ out → less v b = false) : Sel vs (out ++ [b]) := by
  refine ⟨?_, ?_, ?_⟩
  · rw [List.pairwise_append]
    refine ⟨h.1, by simp, fun u hu v hv => ?_⟩
    rw [List.mem_singleton] at hv
    subst hv
    exact h.2.2 v hb hn u hu
  · intro v hv
    rcases List.mem_append.1 hv with hv | hv
    · exact h.2.1 v hv
    · rw [List.mem_singleton] at hv; subst hv; exact hb
  · intro v hv hnv u hu
    rw [List.mem_append, not_or, List.mem_singleton] at hnv
    rcases List.mem_append.1 hu with hu | hu
    · exact h.2.2 v hv hnv.1 u hu
    · rw [List.mem_singleton] at hu
      subst hu
      exact less_tri (hs v hv) (hs u hb) (hm v hv hnv.1) hnv.2
theorem Sel.done {vs out : List V} (h : Sel vs out) (hd : ∀ v ∈ vs, v ∈ out) : Srt vs out := ⟨h.1, fun v => ⟨h.2.1 v, hd v⟩⟩
theorem Sel.len {vs out : List V} (h : Sel vs out) : out.length ≤ vs.length := len_sub out vs h.1 h.2.1
end Go.Proofs.YtfblnomkafimhaaGreat.Cl

namespace Go.Proofs.YtfblnomkafimhaaGreat.Clw
set_option maxRecDepth 20000
open Go.RowKit
open Chg Vw Cl
open Chgw (hat hbe ret_bool vw Vi)
open Rg (bal)

def cellsC (x : C) : List Value := [.int .i64 x.1, .int .i64 x.2.1, .int .i64 x.2.2]
/-- a cell as a value -/
def cv (x : C) : Value := .agg #[.int .i64 x.1, .int .i64 x.2.1, .int .i64 x.2.2]
theorem infoC : (Tryz.prog.info? 53).map (fun i => (i.zero, i.size, i.bytes)) = some (some (cv (0, 0, 0)), 3, 24) := by kernel_rfl
/-- cells in slices -/
def KC : Kind C := ⟨cellsC, 3, 53, 36, 24, cv (0, 0, 0), fun _ => rfl, fun x u hu => by
  simp only [cellsC, List.mem_cons, List.not_mem_nil, or_false] at hu
  rcases hu with rfl | rfl | rfl <;> rfl, by omega, by omega, infoC, Tryz.underlying36, rfl⟩
/-- a cell in a block of its own -/
def Cx (w : World) (g : Nat) (x : C) : Prop := w.heap[g]? = some (.cells #[.int .i64 x.1, .int .i64 x.2.1, .int .i64 x.2.2] 53)
section
variable {w : World} {g : Nat} {x : C}
theorem Cx.c0 (h : Cx w g x) : w.cell? ⟨g, 0, none⟩ = some (.int .i64 x.1) := by rw [cell_of_row _ _ _ _ _ _ h]; rfl
theorem Cx.c1 (h : Cx w g x) : w.cell? ⟨g, 1, none⟩ = some (.int .i64 x.2.1) := by rw [cell_of_row _ _ _ _ _ _ h]; rfl
theorem Cx.c2 (h : Cx w g x) : w.cell? ⟨g, 2, none⟩ = some (.int .i64 x.2.2) := by rw [cell_of_row _ _ _ _ _ _ h]; rfl
theorem Cx.lt (h : Cx w g x) : g < w.heap.size := by
  rcases Nat.lt_or_ge g w.heap.size with h' | h'
  · exact h'
  · unfold Cx at h; rw [Array.getElem?_eq_none h'] at h; cases h
theorem Cx.all {w' : World} (h : Cx w g x) (hb : Below w.heap.size w w') : Cx w' g x := (hb.block g h.lt).trans h
theorem Cx.other (h : Cx w g x) {p : Addr} (hp : g ≠ p.block) (u : Value) : Cx (w.setCell p u) g x := (Below.heap_setCell w p u g hp).trans h
theorem Cx.at (h : Cx w g x) : Rg.At KC w g 0 x := by
  intro i u hu
  have hi : i < 3 := Rg.lt_cells KC hu
  rw [Nat.zero_add, cell_of_row _ _ _ _ _ _ h, ← hu]
  match i, hi with
  | 0, _ => rfl
  | 1, _ => rfl
  | 2, _ => rfl
end
/-- the cells of the cell at an address, one by one -/
def Tri (w : World) (b o : Nat) (x : C) : Prop := w.cell? ⟨b, o, none⟩ = some (.int .i64 x.1) ∧ w.cell? ⟨b, o + 1, none⟩ = some (.int .i64 x.2.1) ∧ w.cell? ⟨b, o + 2, none⟩ = some (.int .i64 x.2.2)
theorem tri_at {w : World} {b o : Nat} {x : C} (h : Rg.At KC w b o x) : Tri w b o x := ⟨h 0 _ rfl, h 1 _ rfl, h 2 _ rfl⟩
theorem Tri.below {w w' : World} {b o B : Nat} {x : C} (h : Tri w b o x) (hb : Below B w w') (hB : b < B) : Tri w' b o x :=
  ⟨(hb.cell (p := ⟨b, o, none⟩) hB).trans h.1, (hb.cell (p := ⟨b, o + 1, none⟩) hB).trans h.2.1, (hb.cell (p := ⟨b, o + 2, none⟩) hB).trans h.2.2⟩
/-- a slice of cells that is in memory now -/
def Sc (w : World) (A : Option Addr) (n c : Nat) (l : List C) : Prop := n = l.length ∧ n ≤ c ∧ n * 24 ≤ 140737488355328 ∧ Rg.Rs KC w w.heap.size A l
theorem Sc.all {w w' : World} {A : Option Addr} {n c : Nat} {l : List C} (h : Sc w A n c l) (hb : Below w.heap.size w w') : Sc w' A n c l := ⟨h.1, h.2.1, h.2.2.1, (h.2.2.2.below hb).more hb.size⟩
theorem Sc.nil (w : World) : Sc w none 0 0 [] := ⟨rfl, Nat.le_refl _, by omega, Rg.Rs.nil⟩
theorem Sc.own {w : World} {base : Nat} {A : Option Addr} {n c : Nat} {l : List C} (h : Rg.OwnG KC w base A n c l) (hl : l.length * 24 ≤ 140737488355328) : Sc w A n c l := ⟨h.1, h.cap, by rw [h.1]; exact hl, h.rs⟩
/-- a slice of cells is answered -/
def RetSc (w : World) (l : List C) (e : Ending) (w' : World) : Prop := ∃ A n c, e = .returned (.slice A n c) ∧ Sc w' A n c l ∧ Below w.heap.size w w'
/-- views in slices -/
def cellsV (v : V) : List Value := [.int .i64 (v.1 : Int), .int .i64 (v.2 : Int)]
theorem infoV2 : (Tryz.prog.info? 26).map (fun i => (i.zero, i.size, i.bytes)) = some (some (vw 0 0), 2, 16) := by kernel_rfl
def KV : Kind V := ⟨cellsV, 2, 26, 45, 16, vw 0 0, fun _ => rfl, fun x u hu => by
  simp only [cellsV, List.mem_cons, List.not_mem_nil, or_false] at hu
  rcases hu with rfl | rfl <;> rfl, by omega, by omega, infoV2, Tryz.underlying45, rfl⟩
theorem rv_rs {w : World} {B : Nat} {A : Option Addr} {vs : List V} (h : Rg.Rs KV w B A vs) : Chgw.Rv w B A vs := by
  intro hn
  obtain ⟨b, o, e, hB, hc⟩ := h hn
  exact ⟨b, o, e, hB, fun j v hv => ⟨hc j v hv 0 _ rfl, hc j v hv 1 _ rfl⟩⟩
/-- a slice of views that is in memory now -/
def Sv (w : World) (A : Option Addr) (n c : Nat) (vs : List V) : Prop := n = vs.length ∧ n ≤ c ∧ n * 16 ≤ 140737488355328 ∧ Chgw.Rv w w.heap.size A vs
theorem Sv.all {w w' : World} {A : Option Addr} {n c : Nat} {vs : List V} (h : Sv w A n c vs) (hb : Below w.heap.size w w') : Sv w' A n c vs := ⟨h.1, h.2.1, h.2.2.1, (h.2.2.2.below hb).more hb.size⟩
theorem Sv.own {w : World} {base : Nat} {A : Option Addr} {n c : Nat} {vs : List V} (h : Rg.OwnG KV w base A n c vs) (hl : vs.length * 16 ≤ 140737488355328) : Sv w A n c vs := ⟨h.1, h.cap, by rw [h.1]; exact hl, rv_rs h.rs⟩
/-- a slice of views in order, each once, is answered -/
def RetSrt (w : World) (vs : List V) (e : Ending) (w' : World) : Prop := ∃ A n c m, e = .returned (.slice A n c) ∧ Srt vs m ∧ Sv w' A n c m ∧ Below w.heap.size w w'
/-- a view and a bool are answered -/
def RetOf (w : World) (a d : Int) (v : Bool) (e : Ending) (w' : World) : Prop := e = .returned (.tuple #[vw a d, .bool v]) ∧ Below w.heap.size w w'
section
variable {w : World} {g : Nat} {a d : Int}
theorem vi_put (h : Vi w g a d) (a' d' : Int) : Vi ((w.setCell ⟨g, 0, none⟩ (.int .i64 a')).setCell ⟨g, 1, none⟩ (.int .i64 d')) g a' d' := by
  unfold Vi
  rw [heap_setCell_same _ g 1 _ _ _ (heap_setCell_same w g 0 _ _ _ h)]
  rfl
theorem results_vi2 {fn : Func} {t u : Tmp} (h : fn.results = #[.cell t 26, .tmp u]) {tmps : Array Value} {x : Value} (hp : tmps.getD t undef = .pointer (some ⟨g, 0, none⟩)) (hx : tmps.getD u undef = x) (hv : Vi w g a d) : (results fn tmps).run Tryz.prog w = .ok (.tuple #[vw a d, x]) w := by
  have h0 := hv.c0
  have h1 := hv.c1
  have u3 := Tryz.sizeOf26
  have hp' : tmps[t]?.getD undef = .pointer (some ⟨g, 0, none⟩) := by rw [← hp, Array.getD_eq_getD_getElem?]
  have hx' : tmps[u]?.getD undef = x := by rw [← hx, Array.getD_eq_getD_getElem?]
  unfold results vw
  simp only [h]
  simp [hp', hx', go_sem, h0, h1]
end
theorem rv_right (a d : Int) : Chgw.rightB a d = rvC a d := rfl
/-- the node ahead of place k -/
def prevC (es : List C) : Nat → Int
  | 0 => -1
  | k + 1 => match es[k]? with | some x => x.1 | none => -1
theorem lt_of_get {α : Type} {es : List α} {k : Nat} {x : α} (h : es[k]? = some x) : k < es.length := by
  rcases Nat.lt_or_ge k es.length with h' | h'
  · exact h'
  · rw [List.getElem?_eq_none h'] at h; cases h
theorem take_snocC {α : Type} {es : List α} {k : Nat} {x : α} (h : es[k]? = some x) : es.take (k + 1) = es.take k ++ [x] := by rw [List.take_add_one, h]; rfl
theorem fnd_take (l : List C) (k : Nat) (key : Int) (x : C) (h : l[k]? = some x) (hx : x.1 = key) (hn : ∀ y ∈ l.take k, ¬ y.1 = key) : fnd l key = some x := by
  unfold fnd
  rw [List.find?_eq_some_iff_getElem]
  have hk := lt_of_get h
  rw [List.getElem?_eq_getElem hk] at h
  refine ⟨by simpa using hx, k, hk, Option.some.inj h, fun j hj => ?_⟩
  have := hn l[j] (List.mem_iff_getElem?.2 ⟨j, by rw [List.getElem?_take, if_pos hj, List.getElem?_eq_getElem]⟩)
  simpa using this
theorem not_more {l : List C} {k : Nat} {key : Int} {x : C} (h : l[k]? = some x) (hx : ¬ x.1 = key) (hn : ∀ y ∈ l.take k, ¬ y.1 = key) : ∀ y ∈ l.take (k + 1), ¬ y.1 = key := by
  intro y hy
  rw [take_snocC h, List.mem_append, List.mem_singleton] at hy
  rcases hy with hy | rfl
  · exact hn y hy
  · exact hx
/-- what is answered for a node -/
theorem get_at {l : List C} {key : Int} {x : C} (h : fnd l key = some x) : (getC l key).2.1 = x.2.1 ∧ (getC l key).2.2 = x.2.2 ∧ hasC l key = true := by rw [getC_some h, hasC_some h]; exact ⟨rfl, rfl, rfl⟩
theorem get_no {l : List C} {key : Int} (h : fnd l key = none) : (getC l key).2.1 = 0 ∧ (getC l key).2.2 = 0 ∧ hasC l key = false := by rw [getC_none h, hasC_none h]; exact ⟨rfl, rfl, rfl⟩
theorem one_tri (w : World) (x : C) : Rg.Rs KC (w.alloc (.cells #[.int .i64 x.1, .int .i64 x.2.1, .int .i64 x.2.2] 53)) (w.heap.size + 1) (some ⟨w.heap.size, 0, none⟩) [x] := Rg.rs_new KC w [x]
theorem one_at (w : World) (g : Nat) (x : C) (hg : g = w.heap.size) : Rg.Rs KC (w.alloc (.cells #[.int .i64 x.1, .int .i64 x.2.1, .int .i64 x.2.2] 53)) (g + 1) (some ⟨g, 0, none⟩) [x] := by
  subst hg
  exact one_tri w x
theorem one_vi_at (w : World) (g a d : Nat) (hg : g = w.heap.size) : Rg.Rs KV (w.alloc (.cells #[.int .i64 (a : Int), .int .i64 (d : Int)] 26)) (g + 1) (some ⟨g, 0, none⟩) [(a, d)] := by
  subst hg
  exact Rg.rs_new KV w [(a, d)]
end Go.Proofs.YtfblnomkafimhaaGreat.Clw

namespace Go.Proofs.YtfblnomkafimhaaGreat.Clw
set_option maxRecDepth 20000
open Go.RowKit
open Chg Vw Cl
open Chgw (hat hbe ret_bool vw Vi)
open Rg (bal)

set_option maxHeartbeats 1000000 in
theorem of_r (A : Option Addr) (n c : Nat) (es : List C) (hn : n = es.length) (hl : n ≤ 140737488355328) (key : Int) (B : Nat) (w : World) (hr : Rg.Rs KC w B A es) (hB : B ≤ w.heap.size) :
    Calls Tryz.prog 108 #[.slice A n c, .int .i64 key] w (RetOf w (getC es key).2.1 (getC es key).2.2 (hasC es key)) := by
  have HN := Lib.hid hn; clear hn
  have HR := Lib.hid hr; clear hr
  have HF : Hid (∀ k x, es[k]? = some x → x.1 = key → (∀ y ∈ es.take k, ¬ y.1 = key) → (getC es key).2.1 = x.2.1 ∧ (getC es key).2.2 = x.2.2 ∧ hasC es key = true) := Lib.hid (fun k x h1 h2 h3 => get_at (fnd_take es k key x h1 h2 h3))
  have HZ : Hid ((∀ y ∈ es, ¬ y.1 = key) → (getC es key).2.1 = 0 ∧ (getC es key).2.2 = 0 ∧ hasC es key = false) := Lib.hid (fun h => get_no (fnd_none es key h))
  generalize (getC es key).2.1 = ra at HF HZ ⊢
  generalize (getC es key).2.2 = rd at HF HZ ⊢
  generalize hasC es key = rb at HF HZ ⊢
  go_enter Tryz.func108, Tryz.ntmps108
  go_wp2
  go_loopw [10] (fun i wr => ∃ k : Nat, i = .int .i64 k ∧ k ≤ n ∧ (∀ y ∈ es.take k, ¬ y.1 = key) ∧ Vi wr w.heap.size 0 0 ∧ Below w.heap.size w wr) (fun i _ => n - (intOf i).toNat)
  case atStart => exact ⟨0, rfl, by omega, by simp, hat _ _ _ rfl, bal (Below.refl _ _) (Nat.le_refl _) _⟩
  case round =>
    obtain ⟨k, rfl, hk, hno, hv0, hb⟩ := hrel
    have HB := Lib.hid hb; have V0 := Lib.hid hv0; have HNO := Lib.hid hno
    have hsz := hv0.lt
    clear hb hv0 hno
    have z0 := V0.out.c0; have z1 := V0.out.c1
    have f0 := frozen_of_row wr w.heap.size 0 _ _ V0.out
    have f1 := frozen_of_row wr w.heap.size 1 _ _ V0.out
    by_cases h : k < n
    · obtain ⟨b, o, rfl, hbB, hcell⟩ := HR.out (by rw [← HN.out]; omega)
      have hkl : k < es.length := by rw [← HN.out]; exact h
      have hz : es[k]? = some es[k] := List.getElem?_eq_getElem hkl
      have hc0 := (tri_at (hcell k es[k] hz)).below (HB.out.mono hB) hbB
      generalize es[k] = x at hz hc0
      obtain ⟨xk, xa, xd⟩ := x
      obtain ⟨x0, x1, x2⟩ := hc0
      rw [show KC.k = 3 from rfl] at x0 x1 x2
      have HX := Lib.hid hz
      clear hz hcell hkl
      by_cases hx : xk = key
      · have HE := Lib.hid (HF.out k _ HX.out hx HNO.out)
        have hq : (xk == key) = true := by rw [beq_iff_eq]; exact hx
        clear hx HF HZ
        go_wp2
        refine bodyPost_ret (results_vi2 (g := w.heap.size) (a := xa) (d := xd) (x := .bool true) rfl rfl rfl (hbe (vi_put V0.out xa xd))) rfl ?_
        exact ⟨by rw [HE.out.1, HE.out.2.1, HE.out.2.2], bal ((HB.out.setCell (Nat.le_refl _) _).setCell (Nat.le_refl _) _) (Nat.le_refl _) _⟩
      · have hq : (xk == key) = false := by rw [beq_eq_false_iff_ne]; exact hx
        have HNX := Lib.hid (not_more HX.out hx HNO.out)
        clear hx
        go_wp2
        exact ⟨⟨k + 1, by go_num, by omega, HNX.out, hbe V0.out, bal HB.out (Nat.le_refl _) _⟩, by simp [intOf]; omega⟩
    · have HE := Lib.hid (HZ.out (by
        have := HNO.out
        rwa [List.take_of_length_le (by rw [← HN.out]; omega)] at this))
      clear HF HZ
      go_wp2
      refine bodyPost_ret (results_vi2 (g := w.heap.size) (a := 0) (d := 0) (x := .bool false) rfl rfl rfl (vi_put V0.out 0 0)) rfl ?_
      exact ⟨by rw [HE.out.1, HE.out.2.1, HE.out.2.2], (HB.out.setCell (Nat.le_refl _) _).setCell (Nat.le_refl _) _⟩
theorem of_o (A : Option Addr) (n c : Nat) (es : List C) (key : Int) (w : World) (h : Sc w A n c es) : Calls Tryz.prog 108 #[.slice A n c, .int .i64 key] w (RetOf w (getC es key).2.1 (getC es key).2.2 (hasC es key)) :=
  of_r A n c es h.1 (by have := h.2.2.1; omega) key _ w h.2.2.2 (Nat.le_refl _)
theorem sameC_false {a b : List C} {i : Nat} {x y : C} (hx : a[i]? = some x) (hy : b[i]? = some y) (h : ¬ (x.1 = y.1 ∧ x.2.1 = y.2.1 ∧ x.2.2 = y.2.2)) : sameC a b = false := by
  rw [← Bool.not_eq_true, sameC_eq]
  rintro rfl
  rw [hx] at hy
  cases hy
  exact h ⟨rfl, rfl, rfl⟩
theorem take_same {a b : List C} {k : Nat} {x y : C} (hx : a[k]? = some x) (hy : b[k]? = some y) (h : a.take k = b.take k) (h1 : x.1 = y.1 ∧ x.2.1 = y.2.1 ∧ x.2.2 = y.2.2) : a.take (k + 1) = b.take (k + 1) := by
  rw [take_snocC hx, take_snocC hy, h]
  obtain ⟨x1, x2, x3⟩ := x
  obtain ⟨y1, y2, y3⟩ := y
  obtain ⟨rfl, rfl, rfl⟩ := h1
  rfl
theorem eqvC (d : Nat) (a b c e : Int) (w : World) : (Op.equalIn (d + 2) 26 (.agg #[.int .i64 a, .int .i64 b]) (.agg #[.int .i64 c, .int .i64 e])).run Tryz.prog w = .ok (a == c && b == e) w := by
  have u3 := Tryz.underlying3
  have a3 := Tryz.isAgg3
  have z3 := Tryz.sizeOf3
  have hS : Tryz.prog.underlying 26 = some (.struct (Tryz.prog.fieldsOf 26)) := by kernel_rfl
  rw [run_equalIn_agg w (d + 1) 26 _ _ hS (by kernel_rfl)]
  simp only [Program.fieldsOf, Tryz.underlying26]
  go_simp
  by_cases h1 : a = c <;> by_cases h2 : b = e <;> simp [h1, h2]
/-- '==' of cells -/
theorem eq_cell (n a b m c e : Int) (w : World) : (Op.equalIn 10000 53 (.agg #[.int .i64 n, .int .i64 a, .int .i64 b]) (.agg #[.int .i64 m, .int .i64 c, .int .i64 e])).run Tryz.prog w = .ok (n == m && (a == c && b == e)) w := by
  have u3 := Tryz.underlying3
  have a3 := Tryz.isAgg3
  have z3 := Tryz.sizeOf3
  have a4 := Tryz.isAgg26
  have z4 := Tryz.sizeOf26
  have hv := eqvC 9997 a b c e
  have hS : Tryz.prog.underlying 53 = some (.struct (Tryz.prog.fieldsOf 53)) := by kernel_rfl
  rw [show (10000 : Nat) = 9999 + 1 from rfl, run_equalIn_agg w 9999 53 _ _ hS (by kernel_rfl)]
  simp only [Program.fieldsOf, Tryz.underlying53]
  go_simp
  by_cases h1 : n = m <;> by_cases h2 : a = c <;> by_cases h3 : b = e <;> simp [h1, h2, h3]
set_option maxHeartbeats 1000000 in
theorem same_r (A : Option Addr) (n c : Nat) (es : List C) (hn : n = es.length) (hl : n ≤ 140737488355328) (A2 : Option Addr) (n2 c2 : Nat) (fs : List C) (hn2 : n2 = fs.length) (B : Nat) (w : World) (hr : Rg.Rs KC w B A es) (hr2 : Rg.Rs KC w B A2 fs) :
    Calls Tryz.prog 29 #[.slice A n c, .slice A2 n2 c2] w fun e w' => e = .returned (.bool (sameC es fs)) ∧ ∃ k, w' = w.drewN k := by
  have heq := eq_cell
  have HN := Lib.hid hn; have HN1 := Lib.hid hn2
  by_cases hlen : n = n2
  · subst hlen
    clear hn hn2
    have HR := Lib.hid hr; clear hr
    have HR1 := Lib.hid hr2; clear hr2
    have HF : Hid (∀ (i : Nat) x y, es[i]? = some x → fs[i]? = some y → ¬ (x.1 = y.1 ∧ x.2.1 = y.2.1 ∧ x.2.2 = y.2.2) → sameC es fs = false) := Lib.hid (fun i x y => sameC_false)
    have HT : Hid (es.take n = fs.take n → sameC es fs = true) := Lib.hid (fun h => by
      rw [List.take_of_length_le (by rw [← HN.out]; omega), List.take_of_length_le (by rw [← HN1.out]; omega)] at h
      rw [h, sameC_refl])
    generalize sameC es fs = r at HF HT ⊢
    go_enter Tryz.func29, Tryz.ntmps29
    go_wp2
    go_loopw [13] (fun i wr => ∃ k : Nat, i = .int .i64 k ∧ k ≤ n ∧ es.take k = fs.take k ∧ ∃ q, wr = w.drewN q) (fun i _ => n - (intOf i).toNat)
    case atStart => exact ⟨0, rfl, by omega, rfl, 0, rfl⟩
    case round =>
      obtain ⟨k, rfl, hk, he, q, rfl⟩ := hrel
      have HE := Lib.hid he; clear he
      by_cases h : k < n
      · obtain ⟨b, o, rfl, _, hcell⟩ := HR.out (by rw [← HN.out]; omega)
        obtain ⟨b1, o1, rfl, _, hcell1⟩ := HR1.out (by rw [← HN1.out]; omega)
        have hkl : k < es.length := by rw [← HN.out]; exact h
        have hkl1 : k < fs.length := by rw [← HN1.out]; exact h
        have hz : es[k]? = some es[k] := List.getElem?_eq_getElem hkl
        have hz1 : fs[k]? = some fs[k] := List.getElem?_eq_getElem hkl1
        have hc0 := tri_at (hcell k es[k] hz)
        have hc1 := tri_at (hcell1 k fs[k] hz1)
        generalize es[k] = z at hz hc0
        generalize fs[k] = z1 at hz1 hc1
        obtain ⟨zk, za, zd⟩ := z
        obtain ⟨yk, ya, yd⟩ := z1
        obtain ⟨x0, x1, x2⟩ := hc0
        obtain ⟨y0, y1, y2⟩ := hc1
        rw [show KC.k = 3 from rfl] at x0 x1 x2 y0 y1 y2
        have HZ := Lib.hid hz; have HZ1 := Lib.hid hz1
        clear hz hz1 hcell hcell1 hkl hkl1
        have ht : (k : Int) < (n : Int) := by omega
        have ht0 : (0 : Int) ≤ (k : Int) := by omega
        by_cases hzz : zk = yk ∧ za = ya ∧ zd = yd
        · have HM := Lib.hid (take_same HZ.out HZ1.out HE.out hzz)
          have hne : (zk == yk && (za == ya && zd == yd)) = true := by obtain ⟨rfl, rfl, rfl⟩ := hzz; simp
          clear hzz HF HT
          go_wp2
          go_quiet (fail)
          go_wp2
          exact ⟨⟨k + 1, by go_num, by omega, HM.out, _, rfl⟩, by simp [intOf]; omega⟩
        · have hne : (zk == yk && (za == ya && zd == yd)) = false := by
            rw [Bool.eq_false_iff]
            intro e
            simp only [Bool.and_eq_true, beq_iff_eq] at e
            exact hzz e
          have HNE := Lib.hid (HF.out k _ _ HZ.out HZ1.out hzz); clear hzz HF HT
          go_wp2
          go_quiet (fail)
          go_wp2
          go_ret
          exact ⟨ret_bool HNE.out.symm, _, World.drewN_drewN _ _ _⟩
      · obtain rfl : k = n := by omega
        have HRT := Lib.hid (HT.out HE.out)
        clear HF HT
        go_wp2
        go_ret
        exact ⟨ret_bool HRT.out.symm, q, rfl⟩
  · have HF : Hid (sameC es fs = false) := Lib.hid (by
      rw [← Bool.not_eq_true, sameC_eq]
      rintro rfl
      omega)
    generalize sameC es fs = r at HF ⊢
    have hne : ((n : Int) == (n2 : Int)) = false := by rw [beq_eq_false_iff_ne]; omega
    clear hr hr2 hn hn2
    go_enter Tryz.func29, Tryz.ntmps29
    go_wp2
    go_ret
    exact ⟨ret_bool HF.out.symm, 0, rfl⟩
theorem drewN_belowC (w : World) (k : Nat) : Below w.heap.size w (w.drewN k) := ⟨rfl, rfl, rfl, Nat.le_refl _, fun _ _ => rfl⟩
theorem same_o (A : Option Addr) (n c : Nat) (es : List C) (A2 : Option Addr) (n2 c2 : Nat) (fs : List C) (w : World) (h : Sc w A n c es) (h2 : Sc w A2 n2 c2 fs) : Calls Tryz.prog 29 #[.slice A n c, .slice A2 n2 c2] w fun e w' => e = .returned (.bool (sameC es fs)) ∧ Below w.heap.size w w' :=
  (same_r A n c es h.1 (by have := h.2.2.1; omega) A2 n2 c2 fs h2.1 _ w h.2.2.2 h2.2.2.2).mono fun _ _ ⟨h1, k, h2⟩ => ⟨h1, h2 ▸ drewN_belowC w k⟩
set_option maxHeartbeats 1000000 in
theorem merge_ro (A : Option Addr) (n c : Nat) (es : List C) (A2 : Option Addr) (n2 c2 : Nat) (fs : List C) (w : World) (h1 : Sc w A n c es) (h2 : Sc w A2 n2 c2 fs) :
    Calls Tryz.prog 67 #[.slice A n c, .slice A2 n2 c2] w (Rg.RetOwnG KC w w.heap.size (mergeC es fs)) := by
  have HFA : Hid (∀ (key : Int) (W : World), Below w.heap.size w W → Calls Tryz.prog 108 #[.slice A n c, .int .i64 key] W (RetOf W (getC es key).2.1 (getC es key).2.2 (hasC es key))) := Lib.hid (fun key W hW => of_o A n c es key W (h1.all hW))
  have HFB : Hid (∀ (key : Int) (W : World), Below w.heap.size w W → Calls Tryz.prog 108 #[.slice A2 n2 c2, .int .i64 key] W (RetOf W (getC fs key).2.1 (getC fs key).2.2 (hasC fs key))) := Lib.hid (fun key W hW => of_o A2 n2 c2 fs key W (h2.all hW))
  clear h1 h2
  go_enter Tryz.func67, Tryz.ntmps67
  go_wp2
  go_loopw [5, 6] (fun x i wr => ∃ (A3 : Option Addr) (m c3 k : Nat), x = .slice A3 m c3 ∧ i = .int .i64 k ∧ k ≤ 6 ∧ Rg.OwnG KC wr w.heap.size A3 m c3 (mergeKC es fs k) ∧ Below w.heap.size w wr) (fun _ i _ => 6 - (intOf i).toNat)
  case atStart => exact ⟨_, 0, 0, 0, rfl, rfl, by omega, Rg.own_newG KC _ _ _ rfl (Nat.le_refl _), bal (Below.refl _ _) (Nat.le_refl _) _⟩
  case round =>
    obtain ⟨A3, m, c3, k, rfl, rfl, hk, ho, hb⟩ := hrel
    have HB := Lib.hid hb; have HO := Lib.hid ho
    have hmk : m ≤ k := by rw [ho.1]; exact mergeKC_len es fs k
    have hsz := hb.size
    clear hb ho
    by_cases h : k < 6
    · have HMT : Hid (mergeKC es fs (k + 1) = mergeKC es fs k ++ if hasC es k || hasC fs k then [pickC es fs k] else []) := Lib.hid rfl
      have HPA : Hid (hasC es k = true → pickC es fs k = ((k : Int), (getC es k).2.1, (getC es k).2.2)) := Lib.hid (fun hh => by
        unfold pickC
        rw [if_pos hh, Prod.ext_iff]
        exact ⟨getC_node es k, rfl⟩)
      have HPB : Hid (hasC es k = false → pickC es fs k = ((k : Int), (getC fs k).2.1, (getC fs k).2.2)) := Lib.hid (fun hh => by
        unfold pickC
        rw [if_neg (by rw [hh]; simp), Prod.ext_iff]
        exact ⟨getC_node fs k, rfl⟩)
      generalize pickC es fs k = pk at HMT HPA HPB
      go_wp2_with fail
      refine (HFA.out _ _ HB.out).mono ?_
      rintro e w1 ⟨rfl, hb1⟩
      have HO := Lib.hid (HO.out.below hb1 (Nat.le_refl _))
      have HB := Lib.hid (HB.out.trans (hb1.mono HB.out.size)); clear hb1
      generalize (getC es (k : Int)).2.1 = xa at HPA ⊢
      generalize (getC es (k : Int)).2.2 = xd at HPA ⊢
      generalize hasC es (k : Int) = xb at HMT HPA HPB ⊢
      unfold vw
      go_wp2_with fail
      have VX := Lib.hid (show Vi (w1.alloc (.cells #[.int .i64 xa, .int .i64 xd] 26)) w1.heap.size xa xd from hat _ _ _ rfl)
      have HO := Lib.hid (HO.out.alloc (.cells #[.int .i64 xa, .int .i64 xd] 26))
      have HB := Lib.hid (bal HB.out (Nat.le_refl _) (.cells #[.int .i64 xa, .int .i64 xd] 26))
      generalize w1.alloc (.cells #[.int .i64 xa, .int .i64 xd] 26) = w2 at VX HO HB ⊢
      generalize w1.heap.size = gx at VX ⊢
      refine (HFB.out _ _ HB.out).mono ?_
      rintro e w3 ⟨rfl, hb1⟩
      have VX := Lib.hid (VX.out.below hb1)
      have HO := Lib.hid (HO.out.below hb1 (Nat.le_refl _))
      have HB := Lib.hid (HB.out.trans (hb1.mono HB.out.size)); clear hb1
      generalize (getC fs (k : Int)).2.1 = ya at HPB ⊢
      generalize (getC fs (k : Int)).2.2 = yd at HPB ⊢
      generalize hasC fs (k : Int) = yb at HMT ⊢
      unfold vw
      have x0 : (w3.alloc (.cells #[.int .i64 ya, .int .i64 yd] 26)).cell? ⟨gx, 0, none⟩ = some (.int .i64 xa) := Vi.c0 (hbe VX.out)
      have x1 : (w3.alloc (.cells #[.int .i64 ya, .int .i64 yd] 26)).cell? ⟨gx, 1, none⟩ = some (.int .i64 xd) := Vi.c1 (hbe VX.out)
      have HO := Lib.hid (HO.out.alloc (.cells #[.int .i64 ya, .int .i64 yd] 26))
      have HBZ := Lib.hid (bal HB.out (Nat.le_refl _) (.cells #[.int .i64 ya, .int .i64 yd] 26))
      cases xb with
      | true =>
        obtain rfl : pk = ((k : Int), xa, xd) := HPA.out rfl
        clear HPA HPB
        go_wp2_with (at_builtin; refine Rg.wp_appG (K := KC) rfl (.tmp 29) (.tmp 33) rfl w.heap.size A3 m c3 _ rfl (HO.out.alloc _) _ _ 1 1 [((k : Int), xa, xd)] rfl rfl (one_at _ _ ((k : Int), xa, xd) (by simp)) (by show _ * 24 ≤ _; omega) (Nat.le_trans HBZ.out.size (by simp)) ?_; intro A4 c4 w9 ho4 hb4)
        refine ⟨⟨A4, m + 1, c4, k + 1, rfl, by go_num, by omega, ?_, (bal HBZ.out (Nat.le_refl _) _).trans hb4⟩, by simp [intOf]; omega⟩
        rw [HMT.out]
        exact ho4
      | false =>
        cases yb with
        | true =>
          obtain rfl : pk = ((k : Int), ya, yd) := HPB.out rfl
          clear HPA HPB x0 x1
          go_wp2_with (at_builtin; refine Rg.wp_appG (K := KC) rfl (.tmp 36) (.tmp 40) rfl w.heap.size A3 m c3 _ rfl (HO.out.alloc _) _ _ 1 1 [((k : Int), ya, yd)] rfl rfl (one_at _ _ ((k : Int), ya, yd) (by simp)) (by show _ * 24 ≤ _; omega) (Nat.le_trans HBZ.out.size (by simp)) ?_; intro A4 c4 w9 ho4 hb4)
          refine ⟨⟨A4, m + 1, c4, k + 1, rfl, by go_num, by omega, ?_, (bal HBZ.out (Nat.le_refl _) _).trans hb4⟩, by simp [intOf]; omega⟩
          rw [HMT.out]
          exact ho4
        | false =>
          clear HPA HPB x0 x1
          go_wp2
          refine ⟨⟨A3, m, c3, k + 1, rfl, by go_num, by omega, ?_, HBZ.out⟩, by simp [intOf]; omega⟩
          rw [HMT.out]
          simpa using HO.out
    · obtain rfl : k = 6 := by omega
      go_wp2
      go_ret
      exact ⟨A3, m, c3, rfl, HO.out, HB.out⟩
theorem merge_r (A : Option Addr) (n c : Nat) (es : List C) (A2 : Option Addr) (n2 c2 : Nat) (fs : List C) (w : World) (h1 : Sc w A n c es) (h2 : Sc w A2 n2 c2 fs) :
    Calls Tryz.prog 67 #[.slice A n c, .slice A2 n2 c2] w (RetSc w (mergeC es fs)) :=
  (merge_ro A n c es A2 n2 c2 fs w h1 h2).mono fun _ _ ⟨A3, m, c3, he, ho, hb⟩ => ⟨A3, m, c3, he, Sc.own ho (by have := mergeKC_len es fs 6; show (mergeKC es fs 6).length * 24 ≤ _; omega), hb⟩
end Go.Proofs.YtfblnomkafimhaaGreat.Clw
