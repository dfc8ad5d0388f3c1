/- Contracts and words on which the claims of this seat stand, part 18: VwP VwQ VwB VwR VwS VwT. -/
import Derived.Test.YtldfccllpnplmaaG01
import Derived.Test.YtldfccllpnplmaaG04
import Derived.RegionTactic
set_option linter.unusedSimpArgs false
set_option linter.unusedVariables false
namespace Vw
set_option maxRecDepth 20000
open Chg

def inF (a d k : Nat) : Bool := a.testBit k && !d.testBit k
/-- any number as a node -/
def inN (a d : Nat) (n : Int) : Bool := decide (0 ≤ n ∧ n ≤ 5) && inF a d n.toNat
/-- the first k nodes that are members -/
def memK (a d : Nat) : Nat → List Int
  | 0 => []
  | k + 1 => memK a d k ++ if inF a d k then [(k : Int)] else []
def members (a d : Nat) : List Int := memK a d 6
theorem memK_len (a d k : Nat) : (memK a d k).length ≤ k := by
  induction k with
  | zero => exact Nat.le_refl _
  | succ k ih => unfold memK; split <;> simp <;> omega
theorem memK_mem (a d k : Nat) (z : Int) : z ∈ memK a d k ↔ ∃ i : Nat, i < k ∧ z = (i : Int) ∧ inF a d i = true := by
  induction k with
  | zero => simp [memK]
  | succ k ih =>
    unfold memK
    rw [List.mem_append, ih]
    constructor
    · rintro (⟨i, hi, rfl, h⟩ | h)
      · exact ⟨i, by omega, rfl, h⟩
      · split at h
        · rename_i hk
          rw [List.mem_singleton] at h
          exact ⟨k, by omega, h, hk⟩
        · cases h
    · rintro ⟨i, hi, rfl, h⟩
      by_cases hk : i = k
      · subst hk; right; rw [if_pos h]; simp
      · left; exact ⟨i, by omega, rfl, h⟩
/-- how many of a list are in another one, and how many are not -/
def withL (who : List Int) (l : List Int) : Nat := (l.filter fun m => who.contains m).length
def withoutL (who : List Int) (l : List Int) : Nat := (l.filter fun m => !who.contains m).length
def enough (a d : Nat) (who : List Int) : Bool := decide (withoutL who (members a d) < withL who (members a d))
def size2 (v : Nat × Nat) : Nat := cnt v.1 + cnt v.2
def name2 (v : Nat × Nat) : Nat := 64 * v.1 + v.2
def less (u v : Nat × Nat) : Bool := if size2 u = size2 v then decide (name2 u < name2 v) else decide (size2 u < size2 v)
def within2 (u v : Nat × Nat) : Bool := within u.1 v.1 && within u.2 v.2
def alike (l : List (Nat × Nat)) : Bool := l.all fun a => l.all fun b => within2 a b || within2 b a
/-- the last one in that order -/
def topStep (best v : Nat × Nat) : Nat × Nat := if less best v then v else best
def top : List (Nat × Nat) → Nat × Nat
  | [] => (0, 0)
  | v :: l => l.foldl topStep v
theorem top_take (l : List (Nat × Nat)) (k : Nat) (v : Nat × Nat) (hk : 0 < k) (h : l[k]? = some v) : top (l.take (k + 1)) = topStep (top (l.take k)) v := by
  cases l with
  | nil => simp at h
  | cons x r =>
    obtain ⟨j, rfl⟩ : ∃ j, k = j + 1 := ⟨k - 1, by omega⟩
    rw [List.getElem?_cons_succ] at h
    rw [List.take_succ_cons, List.take_succ_cons]
    show List.foldl topStep x (r.take (j + 1)) = topStep (List.foldl topStep x (r.take j)) v
    rw [List.take_add_one, h, List.foldl_append]
    rfl
end Vw

namespace Vw
set_option maxRecDepth 20000
open Chg

theorem less_iff (u v : Nat × Nat) : less u v = true ↔ size2 u < size2 v ∨ (size2 u = size2 v ∧ name2 u < name2 v) := by
  unfold less
  split
  · rw [decide_eq_true_iff]; omega
  · rw [decide_eq_true_iff]; omega
theorem top_best : ∀ (l : List (Nat × Nat)) (b : Nat × Nat), (List.foldl topStep b l = b ∨ List.foldl topStep b l ∈ l) ∧ less (List.foldl topStep b l) b = false ∧ ∀ x ∈ l, less (List.foldl topStep b l) x = false
  | [], b => ⟨Or.inl rfl, by rw [← Bool.not_eq_true, List.foldl_nil, less_iff]; omega, by simp⟩
  | v :: l, b => by
    rw [List.foldl_cons]
    obtain ⟨h1, h2, h3⟩ := top_best l (topStep b v)
    generalize List.foldl topStep (topStep b v) l = t at h1 h2 h3
    unfold topStep at h1 h2
    rw [← Bool.not_eq_true, less_iff] at h2
    by_cases hb : less b v = true
    · rw [if_pos hb] at h1 h2
      rw [less_iff] at hb
      refine ⟨Or.inr ?_, ?_, ?_⟩
      · rcases h1 with rfl | h1
        · simp
        · simp [h1]
      · rw [← Bool.not_eq_true, less_iff]; omega
      · intro x hx
        rcases List.mem_cons.1 hx with rfl | hx
        · rw [← Bool.not_eq_true, less_iff]; omega
        · exact h3 x hx
    · rw [if_neg hb] at h1 h2
      rw [less_iff] at hb
      refine ⟨?_, ?_, ?_⟩
      · rcases h1 with rfl | h1
        · exact Or.inl rfl
        · exact Or.inr (by simp [h1])
      · rw [← Bool.not_eq_true, less_iff]; omega
      · intro x hx
        rcases List.mem_cons.1 hx with rfl | hx
        · rw [← Bool.not_eq_true, less_iff]; omega
        · exact h3 x hx
theorem top_mem (l : List (Nat × Nat)) (hl : l ≠ []) : top l ∈ l ∧ ∀ x ∈ l, less (top l) x = false := by
  cases l with
  | nil => exact absurd rfl hl
  | cons v l =>
    obtain ⟨h1, h2, h3⟩ := top_best l v
    refine ⟨?_, ?_⟩
    · show List.foldl topStep v l ∈ _
      rcases h1 with h1 | h1
      · rw [h1]; simp
      · simp [h1]
    · intro x hx
      show less (List.foldl topStep v l) x = false
      rcases List.mem_cons.1 hx with rfl | hx
      · exact h2
      · exact h3 x hx
theorem within_cnt_all : ∀ a b : Fin 64, within a.1 b.1 = true → cnt a.1 ≤ cnt b.1 ∧ (cnt a.1 = cnt b.1 → a = b) := by decide +kernel
theorem within_cnt {a b : Nat} (ha : a < 64) (hb : b < 64) (h : within a b = true) : cnt a ≤ cnt b ∧ (cnt a = cnt b → a = b) := by
  have := within_cnt_all ⟨a, ha⟩ ⟨b, hb⟩ h
  exact ⟨this.1, fun e => by simpa using this.2 e⟩
theorem within_self_all : ∀ a : Fin 64, within a.1 a.1 = true := by decide +kernel
theorem within_self {a : Nat} (ha : a < 64) : within a a = true := within_self_all ⟨a, ha⟩
/-- THE LAST ONE HOLDS ALL -/
theorem top_holds (l : List (Nat × Nat)) (h64 : ∀ v ∈ l, v.1 < 64 ∧ v.2 < 64) (ha : alike l = true) (x : Nat × Nat) (hx : x ∈ l) : within2 x (top l) = true := by
  obtain ⟨h1, h2⟩ := top_mem l (by rintro rfl; cases hx)
  have h3 := h2 x hx
  have h4 : (within2 x (top l) || within2 (top l) x) = true := List.all_eq_true.1 (List.all_eq_true.1 ha x hx) (top l) h1
  have h5 := h64 x hx
  have h6 := h64 _ h1
  generalize top l = t at h1 h3 h4 h6
  rcases Bool.or_eq_true_iff.1 h4 with h | h
  · exact h
  · have h7 := Bool.and_eq_true_iff.1 h
    have h8 := within_cnt h6.1 h5.1 h7.1
    have h9 := within_cnt h6.2 h5.2 h7.2
    rw [← Bool.not_eq_true, less_iff] at h3
    unfold size2 at h3
    have e1 := h8.2 (by omega)
    have e2 := h9.2 (by omega)
    unfold within2
    rw [e1, e2, within_self h5.1, within_self h5.2]
    rfl
/-- WHO IS OUT STAYS OUT -/
theorem out_stays (a d d' : Nat) (k : Nat) (hk : d.testBit k = true) (h : ∀ i, d.testBit i = true → d'.testBit i = true) : inF a d' k = false := by
  unfold inF
  rw [h k hk]
  simp
end Vw

namespace Vw
set_option maxRecDepth 20000
open Chg

def cmpI (x y : Int) : Int := if x < y then -1 else if y < x then 1 else 0
/-- below 0: the first goes ahead; 0: they are the same; above 0: it goes behind -/
def ordN (s t m n : Int) : Int := if cmpI s t = 0 then cmpI m n else cmpI s t
def ordV (u v : Nat × Nat) : Int := ordN (size2 u) (size2 v) (name2 u) (name2 v)
theorem cmpI_neg (x y : Int) : cmpI x y < 0 ↔ x < y := by
  unfold cmpI
  split
  · omega
  · split <;> omega
theorem cmpI_zero (x y : Int) : cmpI x y = 0 ↔ x = y := by
  unfold cmpI
  split
  · omega
  · split <;> omega
theorem ordV_neg (u v : Nat × Nat) : decide (ordV u v < 0) = less u v := by
  rw [Bool.eq_iff_iff, decide_eq_true_iff, less_iff]
  unfold ordV ordN
  by_cases h : cmpI (size2 u) (size2 v) = 0
  · rw [if_pos h, cmpI_neg]
    rw [cmpI_zero] at h
    omega
  · rw [if_neg h, cmpI_neg]
    rw [cmpI_zero] at h
    omega
theorem within_trans {a b c : Nat} (h1 : within a b = true) (h2 : within b c = true) : within a c = true := by
  rw [within_iff] at h1 h2 ⊢
  rw [← h2, ← Nat.or_assoc, h1]
theorem within2_trans {u v x : Nat × Nat} (h1 : within2 u v = true) (h2 : within2 v x = true) : within2 u x = true := by
  unfold within2 at *
  rw [Bool.and_eq_true] at *
  exact ⟨within_trans h1.1 h2.1, within_trans h1.2 h2.2⟩
theorem within2_self {u : Nat × Nat} (h : u.1 < 64 ∧ u.2 < 64) : within2 u u = true := by
  unfold within2
  rw [within_self h.1, within_self h.2]; rfl
/-- the lesser of two that are alike is within the other -/
theorem within2_of_not_less {u v : Nat × Nat} (hu : u.1 < 64 ∧ u.2 < 64) (hv : v.1 < 64 ∧ v.2 < 64) (h : (within2 u v || within2 v u) = true) (hl : less v u = false) : within2 u v = true := by
  rcases Bool.or_eq_true_iff.1 h with h | h
  · exact h
  · have h7 := Bool.and_eq_true_iff.1 h
    have h8 := within_cnt hv.1 hu.1 h7.1
    have h9 := within_cnt hv.2 hu.2 h7.2
    rw [← Bool.not_eq_true, less_iff] at hl
    unfold size2 at hl
    have e1 := h8.2 (by omega)
    have e2 := h9.2 (by omega)
    unfold within2
    rw [e1, e2, within_self hu.1, within_self hu.2]
    rfl
theorem chain_within (m : List (Nat × Nat)) (h64 : ∀ v ∈ m, v.1 < 64 ∧ v.2 < 64) (hn : ∀ i u v, m[i]? = some u → m[i + 1]? = some v → within2 u v = true) (i : Nat) :
    ∀ (d : Nat) (u v : Nat × Nat), m[i]? = some u → m[i + d]? = some v → within2 u v = true
  | 0, u, v, hu, hv => by
    rw [Nat.add_zero, hu] at hv
    cases hv
    exact within2_self (h64 u (List.mem_of_getElem? hu))
  | d + 1, u, v, hu, hv => by
    have hlt : i + d < m.length := by
      rcases Nat.lt_or_ge (i + d) m.length with h | h
      · exact h
      · rw [List.getElem?_eq_none (by omega)] at hv; cases hv
    have hx : m[i + d]? = some m[i + d] := List.getElem?_eq_getElem hlt
    exact within2_trans (chain_within m h64 hn i d u _ hu hx) (hn (i + d) _ v hx hv)
theorem alike_of_chain (l m : List (Nat × Nat)) (h64 : ∀ v ∈ l, v.1 < 64 ∧ v.2 < 64) (hp : m.Perm l) (hn : ∀ i u v, m[i]? = some u → m[i + 1]? = some v → within2 u v = true) : alike l = true := by
  unfold alike
  rw [List.all_eq_true]
  intro a ha
  rw [List.all_eq_true]
  intro b hb
  obtain ⟨i, hi⟩ := List.mem_iff_getElem?.1 (hp.mem_iff.2 ha)
  obtain ⟨j, hj⟩ := List.mem_iff_getElem?.1 (hp.mem_iff.2 hb)
  have hm : ∀ v ∈ m, v.1 < 64 ∧ v.2 < 64 := fun v hv => h64 v (hp.mem_iff.1 hv)
  rcases Nat.le_total i j with h | h
  · obtain ⟨d, rfl⟩ := Nat.le.dest h
    rw [chain_within m hm hn i d a b hi hj]; rfl
  · obtain ⟨d, rfl⟩ := Nat.le.dest h
    rw [chain_within m hm hn j d b a hj hi, Bool.or_true]
theorem chain_of_alike (l m : List (Nat × Nat)) (h64 : ∀ v ∈ l, v.1 < 64 ∧ v.2 < 64) (hp : m.Perm l) (hs : ∀ i u v, m[i]? = some u → m[i + 1]? = some v → less v u = false) (h : alike l = true)
    (i : Nat) (u v : Nat × Nat) (hu : m[i]? = some u) (hv : m[i + 1]? = some v) : within2 u v = true := by
  have hu' := hp.mem_iff.1 (List.mem_of_getElem? hu)
  have hv' := hp.mem_iff.1 (List.mem_of_getElem? hv)
  exact within2_of_not_less (h64 u hu') (h64 v hv') (List.all_eq_true.1 (List.all_eq_true.1 h u hu') v hv') (hs i u v hu hv)
end Vw

namespace Go.Proofs.Ytldfccllpnplmaa.Chgw
set_option maxRecDepth 20000
open Go.RowKit
open Chg Vw

end Go.Proofs.Ytldfccllpnplmaa.Chgw

namespace Go.Proofs.Ytldfccllpnplmaa.Chgw
set_option maxRecDepth 20000
open Go.RowKit
open Chg Vw

theorem withL_take (who l : List Int) (k : Nat) (m : Int) (h : l[k]? = some m) : withL who (l.take (k + 1)) = withL who (l.take k) + if who.contains m then 1 else 0 := by
  unfold withL
  rw [List.take_add_one, h, List.filter_append, List.length_append]
  congr 1
  simp only [Option.toList_some, List.filter_cons, List.filter_nil]
  cases who.contains m <;> rfl
theorem withoutL_take (who l : List Int) (k : Nat) (m : Int) (h : l[k]? = some m) : withoutL who (l.take (k + 1)) = withoutL who (l.take k) + if who.contains m then 0 else 1 := by
  unfold withoutL
  rw [List.take_add_one, h, List.filter_append, List.length_append]
  congr 1
  simp only [Option.toList_some, List.filter_cons, List.filter_nil]
  cases who.contains m <;> rfl
theorem withL_le (who l : List Int) : withL who l ≤ l.length := List.length_filter_le _ _
theorem withoutL_le (who l : List Int) : withoutL who l ≤ l.length := List.length_filter_le _ _
theorem contains_take (who : List Int) (k : Nat) (z m : Int) (h : who[k]? = some z) : (who.take (k + 1)).contains m = ((who.take k).contains m || z == m) := by
  rw [List.take_add_one, h, List.contains_append]
  congr 1
  simp only [Option.toList_some, List.contains_cons, List.contains_nil, Bool.or_false]
  exact BEq.comm


def okTwo (a b : Nat × Nat) : Bool := within2 a b || within2 b a
theorem alike_bad (l : List (Nat × Nat)) (k j : Nat) (a b : Nat × Nat) (ha : l[k]? = some a) (hb : l[j]? = some b) (h : okTwo a b = false) : alike l = false := by
  unfold alike
  rw [List.all_eq_false]
  refine ⟨a, List.mem_of_getElem? ha, ?_⟩
  rw [Bool.not_eq_true, List.all_eq_false]
  exact ⟨b, List.mem_of_getElem? hb, by unfold okTwo at h; rw [h]; simp⟩
theorem all_take_more {α : Type} (l : List α) (p : α → Bool) (k : Nat) (x : α) (h : l[k]? = some x) (hx : p x = true) (ha : (l.take k).all p = true) : (l.take (k + 1)).all p = true := by
  rw [List.take_add_one, h, List.all_append, ha]
  simp [hx]

end Go.Proofs.Ytldfccllpnplmaa.Chgw

namespace Go.Proofs.Ytldfccllpnplmaa.Chgw
set_option maxRecDepth 20000
open Go.RowKit
open Chg Vw

theorem top_lt (l : List (Nat × Nat)) (h : ∀ v ∈ l, v.1 < 64 ∧ v.2 < 64) : (top l).1 < 64 ∧ (top l).2 < 64 := by
  cases l with
  | nil => decide
  | cons x r =>
    show (r.foldl topStep x).1 < 64 ∧ (r.foldl topStep x).2 < 64
    have key : ∀ (r : List (Nat × Nat)) (x : Nat × Nat), (x.1 < 64 ∧ x.2 < 64) → (∀ v ∈ r, v.1 < 64 ∧ v.2 < 64) → (r.foldl topStep x).1 < 64 ∧ (r.foldl topStep x).2 < 64 := by
      intro r
      induction r with
      | nil => intro x hx _; exact hx
      | cons y r ih =>
        intro x hx hr
        refine ih (topStep x y) ?_ (fun v hv => hr v (by simp [hv]))
        unfold topStep
        split
        · exact hr y (by simp)
        · exact hx
    exact key r x (h x (by simp)) (fun v hv => h v (by simp [hv]))


theorem take_eq_more {α : Type} (l m : List α) (k : Nat) (x : α) (h1 : l[k]? = some x) (h2 : m[k]? = some x) (h : l.take k = m.take k) : l.take (k + 1) = m.take (k + 1) := by
  rw [List.take_add_one, List.take_add_one, h1, h2, h]


end Go.Proofs.Ytldfccllpnplmaa.Chgw
