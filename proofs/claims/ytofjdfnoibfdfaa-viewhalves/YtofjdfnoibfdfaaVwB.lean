/- Layer 5, plain: views in their order; neighbours tell of any two (no program here). -/
import Derived.Test.YtofjdfnoibfdfaaVwQ
namespace Vw
open Chg

def cmpI (x y : Int) : Int := if x < y then -1 else if y < x then 1 else 0
/-- below 0: the first goes ahead; 0: they are the same; above 0: it goes behind -/
def ordN (s t m n : Int) : Int := if cmpI s t = 0 then cmpI m n else cmpI s t
def ordV (u v : Nat × Nat) : Int := ordN (size2 u) (size2 v) (name2 u) (name2 v)
theorem cmpI_neg (x y : Int) : cmpI x y < 0 ↔ x < y := by
  unfold cmpI
  split
  · omega
  · split <;> omega
theorem cmpI_zero (x y : Int) : cmpI x y = 0 ↔ x = y := by
  unfold cmpI
  split
  · omega
  · split <;> omega
theorem ordV_neg (u v : Nat × Nat) : decide (ordV u v < 0) = less u v := by
  rw [Bool.eq_iff_iff, decide_eq_true_iff, less_iff]
  unfold ordV ordN
  by_cases h : cmpI (size2 u) (size2 v) = 0
  · rw [if_pos h, cmpI_neg]
    rw [cmpI_zero] at h
    omega
  · rw [if_neg h, cmpI_neg]
    rw [cmpI_zero] at h
    omega
theorem within_trans {a b c : Nat} (h1 : within a b = true) (h2 : within b c = true) : within a c = true := by
  rw [within_iff] at h1 h2 ⊢
  rw [← h2, ← Nat.or_assoc, h1]
theorem within2_trans {u v x : Nat × Nat} (h1 : within2 u v = true) (h2 : within2 v x = true) : within2 u x = true := by
  unfold within2 at *
  rw [Bool.and_eq_true] at *
  exact ⟨within_trans h1.1 h2.1, within_trans h1.2 h2.2⟩
theorem within2_self {u : Nat × Nat} (h : u.1 < 64 ∧ u.2 < 64) : within2 u u = true := by
  unfold within2
  rw [within_self h.1, within_self h.2]; rfl
/-- the lesser of two that are alike is within the other -/
theorem within2_of_not_less {u v : Nat × Nat} (hu : u.1 < 64 ∧ u.2 < 64) (hv : v.1 < 64 ∧ v.2 < 64) (h : (within2 u v || within2 v u) = true) (hl : less v u = false) : within2 u v = true := by
  rcases Bool.or_eq_true_iff.1 h with h | h
  · exact h
  · have h7 := Bool.and_eq_true_iff.1 h
    have h8 := within_cnt hv.1 hu.1 h7.1
    have h9 := within_cnt hv.2 hu.2 h7.2
    rw [← Bool.not_eq_true, less_iff] at hl
    unfold size2 at hl
    have e1 := h8.2 (by omega)
    have e2 := h9.2 (by omega)
    unfold within2
    rw [e1, e2, within_self hu.1, within_self hu.2]
    rfl
theorem chain_within (m : List (Nat × Nat)) (h64 : ∀ v ∈ m, v.1 < 64 ∧ v.2 < 64) (hn : ∀ i u v, m[i]? = some u → m[i + 1]? = some v → within2 u v = true) (i : Nat) :
    ∀ (d : Nat) (u v : Nat × Nat), m[i]? = some u → m[i + d]? = some v → within2 u v = true
  | 0, u, v, hu, hv => by
    rw [Nat.add_zero, hu] at hv
    cases hv
    exact within2_self (h64 u (List.mem_of_getElem? hu))
  | d + 1, u, v, hu, hv => by
    have hlt : i + d < m.length := by
      rcases Nat.lt_or_ge (i + d) m.length with h | h
      · exact h
      · rw [List.getElem?_eq_none (by omega)] at hv; cases hv
    have hx : m[i + d]? = some m[i + d] := List.getElem?_eq_getElem hlt
    exact within2_trans (chain_within m h64 hn i d u _ hu hx) (hn (i + d) _ v hx hv)
theorem alike_of_chain (l m : List (Nat × Nat)) (h64 : ∀ v ∈ l, v.1 < 64 ∧ v.2 < 64) (hp : m.Perm l) (hn : ∀ i u v, m[i]? = some u → m[i + 1]? = some v → within2 u v = true) : alike l = true := by
  unfold alike
  rw [List.all_eq_true]
  intro a ha
  rw [List.all_eq_true]
  intro b hb
  obtain ⟨i, hi⟩ := List.mem_iff_getElem?.1 (hp.mem_iff.2 ha)
  obtain ⟨j, hj⟩ := List.mem_iff_getElem?.1 (hp.mem_iff.2 hb)
  have hm : ∀ v ∈ m, v.1 < 64 ∧ v.2 < 64 := fun v hv => h64 v (hp.mem_iff.1 hv)
  rcases Nat.le_total i j with h | h
  · obtain ⟨d, rfl⟩ := Nat.le.dest h
    rw [chain_within m hm hn i d a b hi hj]; rfl
  · obtain ⟨d, rfl⟩ := Nat.le.dest h
    rw [chain_within m hm hn j d b a hj hi, Bool.or_true]
theorem chain_of_alike (l m : List (Nat × Nat)) (h64 : ∀ v ∈ l, v.1 < 64 ∧ v.2 < 64) (hp : m.Perm l) (hs : ∀ i u v, m[i]? = some u → m[i + 1]? = some v → less v u = false) (h : alike l = true)
    (i : Nat) (u v : Nat × Nat) (hu : m[i]? = some u) (hv : m[i + 1]? = some v) : within2 u v = true := by
  have hu' := hp.mem_iff.1 (List.mem_of_getElem? hu)
  have hv' := hp.mem_iff.1 (List.mem_of_getElem? hv)
  exact within2_of_not_less (h64 u hu') (h64 v hv') (List.all_eq_true.1 (List.all_eq_true.1 h u hu') v hv') (hs i u v hu hv)
end Vw
