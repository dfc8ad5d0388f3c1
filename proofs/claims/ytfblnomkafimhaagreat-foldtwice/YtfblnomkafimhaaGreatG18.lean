/- Contracts and words on which the claims of this seat stand, part 18: VwP VwQ VwB VwR VwS VwT VwC VwD. -/
import Derived.Test.YtfblnomkafimhaaGreatG01
import Derived.Test.YtfblnomkafimhaaGreatG04
import Derived.RegionTactic
import Derived.Sort.Grow
import Derived.Deep.Draws
set_option linter.unusedSimpArgs false
set_option linter.unusedVariables false
namespace Vw
set_option maxRecDepth 20000
open Chg

def inF (a d k : Nat) : Bool := a.testBit k && !d.testBit k
/-- any number as a node -/
def inN (a d : Nat) (n : Int) : Bool := decide (0 ≤ n ∧ n ≤ 5) && inF a d n.toNat
/-- the first k nodes that are members -/
def memK (a d : Nat) : Nat → List Int
  | 0 => []
  | k + 1 => memK a d k ++ if inF a d k then [(k : Int)] else []
def members (a d : Nat) : List Int := memK a d 6
theorem memK_len (a d k : Nat) : (memK a d k).length ≤ k := by
  induction k with
  | zero => exact Nat.le_refl _
  | succ k ih => unfold memK; split <;> simp <;> omega
theorem memK_mem (a d k : Nat) (z : Int) : z ∈ memK a d k ↔ ∃ i : Nat, i < k ∧ z = (i : Int) ∧ inF a d i = true := by
  induction k with
  | zero => simp [memK]
  | succ k ih =>
    unfold memK
    rw [List.mem_append, ih]
    constructor
    · rintro (⟨i, hi, rfl, h⟩ | h)
      · exact ⟨i, by omega, rfl, h⟩
      · split at h
        · rename_i hk
          rw [List.mem_singleton] at h
          exact ⟨k, by omega, h, hk⟩
        · cases h
    · rintro ⟨i, hi, rfl, h⟩
      by_cases hk : i = k
      · subst hk; right; rw [if_pos h]; simp
      · left; exact ⟨i, by omega, rfl, h⟩
/-- how many of a list are in another one, and how many are not -/
def withL (who : List Int) (l : List Int) : Nat := (l.filter fun m => who.contains m).length
def withoutL (who : List Int) (l : List Int) : Nat := (l.filter fun m => !who.contains m).length
def enough (a d : Nat) (who : List Int) : Bool := decide (withoutL who (members a d) < withL who (members a d))
def size2 (v : Nat × Nat) : Nat := cnt v.1 + cnt v.2
def name2 (v : Nat × Nat) : Nat := 64 * v.1 + v.2
def less (u v : Nat × Nat) : Bool := if size2 u = size2 v then decide (name2 u < name2 v) else decide (size2 u < size2 v)
def within2 (u v : Nat × Nat) : Bool := within u.1 v.1 && within u.2 v.2
def alike (l : List (Nat × Nat)) : Bool := l.all fun a => l.all fun b => within2 a b || within2 b a
/-- the last one in that order -/
def topStep (best v : Nat × Nat) : Nat × Nat := if less best v then v else best
def top : List (Nat × Nat) → Nat × Nat
  | [] => (0, 0)
  | v :: l => l.foldl topStep v
theorem top_take (l : List (Nat × Nat)) (k : Nat) (v : Nat × Nat) (hk : 0 < k) (h : l[k]? = some v) : top (l.take (k + 1)) = topStep (top (l.take k)) v := by
  cases l with
  | nil => simp at h
  | cons x r =>
    obtain ⟨j, rfl⟩ : ∃ j, k = j + 1 := ⟨k - 1, by omega⟩
    rw [List.getElem?_cons_succ] at h
    rw [List.take_succ_cons, List.take_succ_cons]
    show List.foldl topStep x (r.take (j + 1)) = topStep (List.foldl topStep x (r.take j)) v
    rw [List.take_add_one, h, List.foldl_append]
    rfl
end Vw

namespace Vw
set_option maxRecDepth 20000
open Chg

theorem less_iff (u v : Nat × Nat) : less u v = true ↔ size2 u < size2 v ∨ (size2 u = size2 v ∧ name2 u < name2 v) := by
  unfold less
  split
  · rw [decide_eq_true_iff]; omega
  · rw [decide_eq_true_iff]; omega
theorem top_best : ∀ (l : List (Nat × Nat)) (b : Nat × Nat), (List.foldl topStep b l = b ∨ List.foldl topStep b l ∈ l) ∧ less (List.foldl topStep b l) b = false ∧ ∀ x ∈ l, less (List.foldl topStep b l) x = false
  | [], b => ⟨Or.inl rfl, by rw [← Bool.not_eq_true, List.foldl_nil, less_iff]; omega, by simp⟩
  | v :: l, b => by
    rw [List.foldl_cons]
    obtain ⟨h1, h2, h3⟩ := top_best l (topStep b v)
    generalize List.foldl topStep (topStep b v) l = t at h1 h2 h3
    unfold topStep at h1 h2
    rw [← Bool.not_eq_true, less_iff] at h2
    by_cases hb : less b v = true
    · rw [if_pos hb] at h1 h2
      rw [less_iff] at hb
      refine ⟨Or.inr ?_, ?_, ?_⟩
      · rcases h1 with rfl | h1
        · simp
        · simp [h1]
      · rw [← Bool.not_eq_true, less_iff]; omega
      · intro x hx
        rcases List.mem_cons.1 hx with rfl | hx
        · rw [← Bool.not_eq_true, less_iff]; omega
        · exact h3 x hx
    · rw [if_neg hb] at h1 h2
      rw [less_iff] at hb
      refine ⟨?_, ?_, ?_⟩
      · rcases h1 with rfl | h1
        · exact Or.inl rfl
        · exact Or.inr (by simp [h1])
      · rw [← Bool.not_eq_true, less_iff]; omega
      · intro x hx
        rcases List.mem_cons.1 hx with rfl | hx
        · rw [← Bool.not_eq_true, less_iff]; omega
        · exact h3 x hx
theorem top_mem (l : List (Nat × Nat)) (hl : l ≠ []) : top l ∈ l ∧ ∀ x ∈ l, less (top l) x = false := by
  cases l with
  | nil => exact absurd rfl hl
  | cons v l =>
    obtain ⟨h1, h2, h3⟩ := top_best l v
    refine ⟨?_, ?_⟩
    · show List.foldl topStep v l ∈ _
      rcases h1 with h1 | h1
      · rw [h1]; simp
      · simp [h1]
    · intro x hx
      show less (List.foldl topStep v l) x = false
      rcases List.mem_cons.1 hx with rfl | hx
      · exact h2
      · exact h3 x hx
theorem within_cnt_all : ∀ a b : Fin 64, within a.1 b.1 = true → cnt a.1 ≤ cnt b.1 ∧ (cnt a.1 = cnt b.1 → a = b) := by decide +kernel
theorem within_cnt {a b : Nat} (ha : a < 64) (hb : b < 64) (h : within a b = true) : cnt a ≤ cnt b ∧ (cnt a = cnt b → a = b) := by
  have := within_cnt_all ⟨a, ha⟩ ⟨b, hb⟩ h
  exact ⟨this.1, fun e => by simpa using this.2 e⟩
theorem within_self_all : ∀ a : Fin 64, within a.1 a.1 = true := by decide +kernel
theorem within_self {a : Nat} (ha : a < 64) : within a a = true := within_self_all ⟨a, ha⟩
/-- THE LAST ONE HOLDS ALL -/
theorem top_holds (l : List (Nat × Nat)) (h64 : ∀ v ∈ l, v.1 < 64 ∧ v.2 < 64) (ha : alike l = true) (x : Nat × Nat) (hx : x ∈ l) : within2 x (top l) = true := by
  obtain ⟨h1, h2⟩ := top_mem l (by rintro rfl; cases hx)
  have h3 := h2 x hx
  have h4 : (within2 x (top l) || within2 (top l) x) = true := List.all_eq_true.1 (List.all_eq_true.1 ha x hx) (top l) h1
  have h5 := h64 x hx
  have h6 := h64 _ h1
  generalize top l = t at h1 h3 h4 h6
  rcases Bool.or_eq_true_iff.1 h4 with h | h
  · exact h
  · have h7 := Bool.and_eq_true_iff.1 h
    have h8 := within_cnt h6.1 h5.1 h7.1
    have h9 := within_cnt h6.2 h5.2 h7.2
    rw [← Bool.not_eq_true, less_iff] at h3
    unfold size2 at h3
    have e1 := h8.2 (by omega)
    have e2 := h9.2 (by omega)
    unfold within2
    rw [e1, e2, within_self h5.1, within_self h5.2]
    rfl
/-- WHO IS OUT STAYS OUT -/
theorem out_stays (a d d' : Nat) (k : Nat) (hk : d.testBit k = true) (h : ∀ i, d.testBit i = true → d'.testBit i = true) : inF a d' k = false := by
  unfold inF
  rw [h k hk]
  simp
end Vw

namespace Vw
set_option maxRecDepth 20000
open Chg

def cmpI (x y : Int) : Int := if x < y then -1 else if y < x then 1 else 0
/-- below 0: the first goes ahead; 0: they are the same; above 0: it goes behind -/
def ordN (s t m n : Int) : Int := if cmpI s t = 0 then cmpI m n else cmpI s t
def ordV (u v : Nat × Nat) : Int := ordN (size2 u) (size2 v) (name2 u) (name2 v)
theorem cmpI_neg (x y : Int) : cmpI x y < 0 ↔ x < y := by
  unfold cmpI
  split
  · omega
  · split <;> omega
theorem cmpI_zero (x y : Int) : cmpI x y = 0 ↔ x = y := by
  unfold cmpI
  split
  · omega
  · split <;> omega
theorem ordV_neg (u v : Nat × Nat) : decide (ordV u v < 0) = less u v := by
  rw [Bool.eq_iff_iff, decide_eq_true_iff, less_iff]
  unfold ordV ordN
  by_cases h : cmpI (size2 u) (size2 v) = 0
  · rw [if_pos h, cmpI_neg]
    rw [cmpI_zero] at h
    omega
  · rw [if_neg h, cmpI_neg]
    rw [cmpI_zero] at h
    omega
theorem within_trans {a b c : Nat} (h1 : within a b = true) (h2 : within b c = true) : within a c = true := by
  rw [within_iff] at h1 h2 ⊢
  rw [← h2, ← Nat.or_assoc, h1]
theorem within2_trans {u v x : Nat × Nat} (h1 : within2 u v = true) (h2 : within2 v x = true) : within2 u x = true := by
  unfold within2 at *
  rw [Bool.and_eq_true] at *
  exact ⟨within_trans h1.1 h2.1, within_trans h1.2 h2.2⟩
theorem within2_self {u : Nat × Nat} (h : u.1 < 64 ∧ u.2 < 64) : within2 u u = true := by
  unfold within2
  rw [within_self h.1, within_self h.2]; rfl
/-- the lesser of two that are alike is within the other -/
theorem within2_of_not_less {u v : Nat × Nat} (hu : u.1 < 64 ∧ u.2 < 64) (hv : v.1 < 64 ∧ v.2 < 64) (h : (within2 u v || within2 v u) = true) (hl : less v u = false) : within2 u v = true := by
  rcases Bool.or_eq_true_iff.1 h with h | h
  · exact h
  · have h7 := Bool.and_eq_true_iff.1 h
    have h8 := within_cnt hv.1 hu.1 h7.1
    have h9 := within_cnt hv.2 hu.2 h7.2
    rw [← Bool.not_eq_true, less_iff] at hl
    unfold size2 at hl
    have e1 := h8.2 (by omega)
    have e2 := h9.2 (by omega)
    unfold within2
    rw [e1, e2, within_self hu.1, within_self hu.2]
    rfl
theorem chain_within (m : List (Nat × Nat)) (h64 : ∀ v ∈ m, v.1 < 64 ∧ v.2 < 64) (hn : ∀ i u v, m[i]? = some u → m[i + 1]? = some v → within2 u v = true) (i : Nat) :
    ∀ (d : Nat) (u v : Nat × Nat), m[i]? = some u → m[i + d]? = some v → within2 u v = true
  | 0, u, v, hu, hv => by
    rw [Nat.add_zero, hu] at hv
    cases hv
    exact within2_self (h64 u (List.mem_of_getElem? hu))
  | d + 1, u, v, hu, hv => by
    have hlt : i + d < m.length := by
      rcases Nat.lt_or_ge (i + d) m.length with h | h
      · exact h
      · rw [List.getElem?_eq_none (by omega)] at hv; cases hv
    have hx : m[i + d]? = some m[i + d] := List.getElem?_eq_getElem hlt
    exact within2_trans (chain_within m h64 hn i d u _ hu hx) (hn (i + d) _ v hx hv)
theorem alike_of_chain (l m : List (Nat × Nat)) (h64 : ∀ v ∈ l, v.1 < 64 ∧ v.2 < 64) (hp : m.Perm l) (hn : ∀ i u v, m[i]? = some u → m[i + 1]? = some v → within2 u v = true) : alike l = true := by
  unfold alike
  rw [List.all_eq_true]
  intro a ha
  rw [List.all_eq_true]
  intro b hb
  obtain ⟨i, hi⟩ := List.mem_iff_getElem?.1 (hp.mem_iff.2 ha)
  obtain ⟨j, hj⟩ := List.mem_iff_getElem?.1 (hp.mem_iff.2 hb)
  have hm : ∀ v ∈ m, v.1 < 64 ∧ v.2 < 64 := fun v hv => h64 v (hp.mem_iff.1 hv)
  rcases Nat.le_total i j with h | h
  · obtain ⟨d, rfl⟩ := Nat.le.dest h
    rw [chain_within m hm hn i d a b hi hj]; rfl
  · obtain ⟨d, rfl⟩ := Nat.le.dest h
    rw [chain_within m hm hn j d b a hj hi, Bool.or_true]
theorem chain_of_alike (l m : List (Nat × Nat)) (h64 : ∀ v ∈ l, v.1 < 64 ∧ v.2 < 64) (hp : m.Perm l) (hs : ∀ i u v, m[i]? = some u → m[i + 1]? = some v → less v u = false) (h : alike l = true)
    (i : Nat) (u v : Nat × Nat) (hu : m[i]? = some u) (hv : m[i + 1]? = some v) : within2 u v = true := by
  have hu' := hp.mem_iff.1 (List.mem_of_getElem? hu)
  have hv' := hp.mem_iff.1 (List.mem_of_getElem? hv)
  exact within2_of_not_less (h64 u hu') (h64 v hv') (List.all_eq_true.1 (List.all_eq_true.1 h u hu') v hv') (hs i u v hu hv)
end Vw

namespace Go.Proofs.YtfblnomkafimhaaGreat.Chgw
set_option maxRecDepth 20000
open Go.RowKit
open Chg Vw

theorem less_r (u v : Nat × Nat) (hu : u.1 < 64 ∧ u.2 < 64) (hv : v.1 < 64 ∧ v.2 < 64) (w : World) : Calls Tryz.prog 38 #[vw u.1 u.2, vw v.1 v.2] w fun e w' => e = .returned (.bool (less u v)) ∧ Below w.heap.size w w' := by
  obtain ⟨a, d⟩ := u
  obtain ⟨b, c⟩ := v
  have ha : a < 64 := hu.1
  have hd : d < 64 := hu.2
  have hb : b < 64 := hv.1
  have hc : c < 64 := hv.2
  clear hu hv
  have HL : Hid (less (a, d) (b, c) = if cnt a + cnt d = cnt b + cnt c then decide (64 * a + d < 64 * b + c) else decide (cnt a + cnt d < cnt b + cnt c)) := Lib.hid rfl
  show Calls Tryz.prog 38 #[vw a d, vw b c] w _
  unfold vw
  go_enter Tryz.func38, Tryz.ntmps38
  go_wp2
  have V1 := Lib.hid (show Vx ((w.alloc (.cells #[.int .i64 (a : Int), .int .i64 (d : Int)] 26)).alloc (.cells #[.int .i64 (b : Int), .int .i64 (c : Int)] 26)) w.heap.size a d from hbe (hat _ _ _ rfl))
  have V2 := Lib.hid (show Vx ((w.alloc (.cells #[.int .i64 (a : Int), .int .i64 (d : Int)] 26)).alloc (.cells #[.int .i64 (b : Int), .int .i64 (c : Int)] 26)) (w.heap.size + 1) b c from hat _ _ _ (by simp))
  have HB := Lib.hid (bal (bal (Below.refl w.heap.size w) (Nat.le_refl _) (.cells #[.int .i64 (a : Int), .int .i64 (d : Int)] 26)) (Nat.le_refl _) (.cells #[.int .i64 (b : Int), .int .i64 (c : Int)] 26))
  generalize ((w.alloc (.cells #[.int .i64 (a : Int), .int .i64 (d : Int)] 26)).alloc (.cells #[.int .i64 (b : Int), .int .i64 (c : Int)] 26)) = w1 at V1 V2 HB ⊢
  have HK : Hid (∀ W', Below w1.heap.size w1 W' → (W'.cell? ⟨w.heap.size, 0, none⟩ = some (.int .i64 (a : Int)) ∧ W'.cell? ⟨w.heap.size, 1, none⟩ = some (.int .i64 (d : Int))) ∧ W'.cell? ⟨w.heap.size + 1, 0, none⟩ = some (.int .i64 (b : Int)) ∧ W'.cell? ⟨w.heap.size + 1, 1, none⟩ = some (.int .i64 (c : Int))) := Lib.hid (by
    intro W' h
    have V1 := V1.out.below h V1.out.lt
    have V2 := V2.out.below h V2.out.lt
    exact ⟨⟨V1.c0, V1.c1⟩, V2.c0, V2.c1⟩)
  clear V1 V2
  obtain ⟨k1, hk1⟩ : ∃ k1, cnt a + cnt d = k1 := ⟨_, rfl⟩
  obtain ⟨k2, hk2⟩ : ∃ k2, cnt b + cnt c = k2 := ⟨_, rfl⟩
  obtain ⟨m1, hm1⟩ : ∃ m1, 64 * a + d = m1 := ⟨_, rfl⟩
  obtain ⟨m2, hm2⟩ : ∃ m2, 64 * b + c = m2 := ⟨_, rfl⟩
  rw [hk1, hk2, hm1, hm2] at HL
  have K1 := Lib.hid hk1; have K2 := Lib.hid hk2; have M1 := Lib.hid hm1; have M2 := Lib.hid hm2
  clear hk1 hk2 hm1 hm2
  refine wp_region_held_drew (S := fun W' => Below w1.heap.size w1 W') (by kernel_rfl) (Below.refl _ _).drew (fun hHeld => ?_)
  generalize w1.drew = w2 at hHeld ⊢
  have HB2 : Hid (Below w1.heap.size w1 w2) := hHeld
  clear hHeld
  refine take_in (i := 0) (oi := ⟨_, _, _, _, _, _⟩) (v := ?_) rfl (by kernel_rfl) (by kernel_rfl) (by kernel_rfl) (fun _ _ _ h => h) (by rfl) ?_ HB2.out ?_
  rotate_left
  · intro W hW; have hq := HK.out W hW; go_simp; with_reducible rfl
  simp only [Act.put, List.setIfInBounds_toArray, List.set_cons_zero, List.set_cons_succ]
  refine take_in (i := 2) (oi := ⟨_, _, _, _, _, _⟩) (v := ?_) rfl (by kernel_rfl) (by kernel_rfl) (by kernel_rfl) (fun _ _ _ h => h) (by rfl) ?_ HB2.out ?_
  rotate_left
  · intro W hW; have hq := HK.out W hW; go_simp; with_reducible rfl
  simp only [Act.put, List.setIfInBounds_toArray, List.set_cons_zero, List.set_cons_succ]
  refine wpAnyH_ready (rs := [1]) (by kernel_rfl) (by simp) ?_
  refine AllReadyH.cons (o := ⟨_, _, _, _, _, _⟩) rfl (fun K hK => ?_) AllReadyH.nil
  go_simp
  refine (size_r a d ha hd _).mono ?_
  rw [K1.out]
  rintro e w3 ⟨rfl, hb3⟩
  have HB3 := Lib.hid (HB2.out.trans (hb3.mono HB2.out.size)); clear hb3
  refine hK.out _ _ HB3.out (fun _ => ?_)
  clear hK K
  refine wpAnyH_ready (rs := [3]) (by kernel_rfl) (by simp) ?_
  refine AllReadyH.cons (o := ⟨_, _, _, _, _, _⟩) rfl (fun K hK => ?_) AllReadyH.nil
  go_simp
  refine (size_r b c hb hc _).mono ?_
  rw [K2.out]
  rintro e w4 ⟨rfl, hb4⟩
  have HB4 := Lib.hid (HB3.out.trans (hb4.mono HB3.out.size)); clear hb4
  refine hK.out _ _ HB4.out (fun _ => ?_)
  clear hK K
  refine take_in (i := 4) (oi := ⟨_, _, _, _, _, _⟩) (v := ?_) rfl (by kernel_rfl) (by kernel_rfl) (by kernel_rfl) (fun _ _ _ h => h) (by rfl) ?_ HB4.out ?_
  rotate_left
  · intro W hW; go_simp; with_reducible rfl
  simp only [Act.put, List.setIfInBounds_toArray, List.set_cons_zero, List.set_cons_succ]
  refine wpAnyH_done (by kernel_rfl) ?_ _
  by_cases hk : k1 = k2
  · subst hk
    rw [if_pos rfl] at HL
    go_wp2
    refine wp_region_held_drew (S := fun W' => Below w1.heap.size w1 W') (by kernel_rfl) HB4.out.drew (fun hHeld => ?_)
    generalize w4.drew = w5 at hHeld ⊢
    have HB5 : Hid (Below w1.heap.size w1 w5) := hHeld
    clear hHeld
    refine take_in (i := 0) (oi := ⟨_, _, _, _, _, _⟩) (v := ?_) rfl (by kernel_rfl) (by kernel_rfl) (by kernel_rfl) (fun _ _ _ h => h) (by rfl) ?_ HB5.out ?_
    rotate_left
    · intro W hW; have hq := HK.out W hW; go_simp; with_reducible rfl
    simp only [Act.put, List.setIfInBounds_toArray, List.set_cons_zero, List.set_cons_succ]
    refine take_in (i := 2) (oi := ⟨_, _, _, _, _, _⟩) (v := ?_) rfl (by kernel_rfl) (by kernel_rfl) (by kernel_rfl) (fun _ _ _ h => h) (by rfl) ?_ HB5.out ?_
    rotate_left
    · intro W hW; have hq := HK.out W hW; go_simp; with_reducible rfl
    simp only [Act.put, List.setIfInBounds_toArray, List.set_cons_zero, List.set_cons_succ]
    refine wpAnyH_ready (rs := [1]) (by kernel_rfl) (by simp) ?_
    refine AllReadyH.cons (o := ⟨_, _, _, _, _, _⟩) rfl (fun K hK => ?_) AllReadyH.nil
    go_simp
    refine (name_r a d ha hd _).mono ?_
    rw [M1.out]
    rintro e w6 ⟨rfl, hb6⟩
    have HB6 := Lib.hid (HB5.out.trans (hb6.mono HB5.out.size)); clear hb6
    refine hK.out _ _ HB6.out (fun _ => ?_)
    clear hK K
    refine wpAnyH_ready (rs := [3]) (by kernel_rfl) (by simp) ?_
    refine AllReadyH.cons (o := ⟨_, _, _, _, _, _⟩) rfl (fun K hK => ?_) AllReadyH.nil
    go_simp
    refine (name_r b c hb hc _).mono ?_
    rw [M2.out]
    rintro e w7 ⟨rfl, hb7⟩
    have HB7 := Lib.hid (HB6.out.trans (hb7.mono HB6.out.size)); clear hb7
    refine hK.out _ _ HB7.out (fun _ => ?_)
    clear hK K
    refine take_in (i := 4) (oi := ⟨_, _, _, _, _, _⟩) (v := ?_) rfl (by kernel_rfl) (by kernel_rfl) (by kernel_rfl) (fun _ _ _ h => h) (by rfl) ?_ HB7.out ?_
    rotate_left
    · intro W hW; go_simp; with_reducible rfl
    simp only [Act.put, List.setIfInBounds_toArray, List.set_cons_zero, List.set_cons_succ]
    refine take_in (i := 5) (oi := ⟨_, _, _, _, _, _⟩) (v := ?_) rfl (by kernel_rfl) (by kernel_rfl) (by kernel_rfl) (fun _ _ _ h => h) (by rfl) ?_ HB7.out ?_
    rotate_left
    · intro W hW; go_simp; with_reducible rfl
    simp only [Act.put, List.setIfInBounds_toArray, List.set_cons_zero, List.set_cons_succ]
    refine wpAnyH_done (by kernel_rfl) ?_ _
    go_wp2
    go_ret
    refine ⟨ret_bool ?_, HB.out.trans (HB7.out.mono HB.out.size)⟩
    rw [HL.out]
  · rw [if_neg hk] at HL
    have hne : ((k1 : Int) == (k2 : Int)) = false := by rw [beq_eq_false_iff_ne]; omega
    go_wp2
    refine wp_region_held_drew (S := fun W' => Below w1.heap.size w1 W') (by kernel_rfl) HB4.out.drew (fun hHeld => ?_)
    generalize w4.drew = w5 at hHeld ⊢
    have HB5 : Hid (Below w1.heap.size w1 w5) := hHeld
    clear hHeld
    refine take_in (i := 0) (oi := ⟨_, _, _, _, _, _⟩) (v := ?_) rfl (by kernel_rfl) (by kernel_rfl) (by kernel_rfl) (fun _ _ _ h => h) (by rfl) ?_ HB5.out ?_
    rotate_left
    · intro W hW; have hq := HK.out W hW; go_simp; with_reducible rfl
    simp only [Act.put, List.setIfInBounds_toArray, List.set_cons_zero, List.set_cons_succ]
    refine take_in (i := 2) (oi := ⟨_, _, _, _, _, _⟩) (v := ?_) rfl (by kernel_rfl) (by kernel_rfl) (by kernel_rfl) (fun _ _ _ h => h) (by rfl) ?_ HB5.out ?_
    rotate_left
    · intro W hW; have hq := HK.out W hW; go_simp; with_reducible rfl
    simp only [Act.put, List.setIfInBounds_toArray, List.set_cons_zero, List.set_cons_succ]
    refine wpAnyH_ready (rs := [1]) (by kernel_rfl) (by simp) ?_
    refine AllReadyH.cons (o := ⟨_, _, _, _, _, _⟩) rfl (fun K hK => ?_) AllReadyH.nil
    go_simp
    refine (size_r a d ha hd _).mono ?_
    rw [K1.out]
    rintro e w6 ⟨rfl, hb6⟩
    have HB6 := Lib.hid (HB5.out.trans (hb6.mono HB5.out.size)); clear hb6
    refine hK.out _ _ HB6.out (fun _ => ?_)
    clear hK K
    refine wpAnyH_ready (rs := [3]) (by kernel_rfl) (by simp) ?_
    refine AllReadyH.cons (o := ⟨_, _, _, _, _, _⟩) rfl (fun K hK => ?_) AllReadyH.nil
    go_simp
    refine (size_r b c hb hc _).mono ?_
    rw [K2.out]
    rintro e w7 ⟨rfl, hb7⟩
    have HB7 := Lib.hid (HB6.out.trans (hb7.mono HB6.out.size)); clear hb7
    refine hK.out _ _ HB7.out (fun _ => ?_)
    clear hK K
    refine take_in (i := 4) (oi := ⟨_, _, _, _, _, _⟩) (v := ?_) rfl (by kernel_rfl) (by kernel_rfl) (by kernel_rfl) (fun _ _ _ h => h) (by rfl) ?_ HB7.out ?_
    rotate_left
    · intro W hW; go_simp; with_reducible rfl
    simp only [Act.put, List.setIfInBounds_toArray, List.set_cons_zero, List.set_cons_succ]
    refine take_in (i := 5) (oi := ⟨_, _, _, _, _, _⟩) (v := ?_) rfl (by kernel_rfl) (by kernel_rfl) (by kernel_rfl) (fun _ _ _ h => h) (by rfl) ?_ HB7.out ?_
    rotate_left
    · intro W hW; go_simp; with_reducible rfl
    simp only [Act.put, List.setIfInBounds_toArray, List.set_cons_zero, List.set_cons_succ]
    refine wpAnyH_done (by kernel_rfl) ?_ _
    go_wp2
    go_ret
    refine ⟨ret_bool ?_, HB.out.trans (HB7.out.mono HB.out.size)⟩
    rw [HL.out]
end Go.Proofs.YtfblnomkafimhaaGreat.Chgw

namespace Go.Proofs.YtfblnomkafimhaaGreat.Chgw
set_option maxRecDepth 20000
open Go.RowKit
open Chg Vw

theorem withL_take (who l : List Int) (k : Nat) (m : Int) (h : l[k]? = some m) : withL who (l.take (k + 1)) = withL who (l.take k) + if who.contains m then 1 else 0 := by
  unfold withL
  rw [List.take_add_one, h, List.filter_append, List.length_append]
  congr 1
  simp only [Option.toList_some, List.filter_cons, List.filter_nil]
  cases who.contains m <;> rfl
theorem withoutL_take (who l : List Int) (k : Nat) (m : Int) (h : l[k]? = some m) : withoutL who (l.take (k + 1)) = withoutL who (l.take k) + if who.contains m then 0 else 1 := by
  unfold withoutL
  rw [List.take_add_one, h, List.filter_append, List.length_append]
  congr 1
  simp only [Option.toList_some, List.filter_cons, List.filter_nil]
  cases who.contains m <;> rfl
theorem withL_le (who l : List Int) : withL who l ≤ l.length := List.length_filter_le _ _
theorem withoutL_le (who l : List Int) : withoutL who l ≤ l.length := List.length_filter_le _ _
theorem contains_take (who : List Int) (k : Nat) (z m : Int) (h : who[k]? = some z) : (who.take (k + 1)).contains m = ((who.take k).contains m || z == m) := by
  rw [List.take_add_one, h, List.contains_append]
  congr 1
  simp only [Option.toList_some, List.contains_cons, List.contains_nil, Bool.or_false]
  exact BEq.comm


def okTwo (a b : Nat × Nat) : Bool := within2 a b || within2 b a
theorem alike_bad (l : List (Nat × Nat)) (k j : Nat) (a b : Nat × Nat) (ha : l[k]? = some a) (hb : l[j]? = some b) (h : okTwo a b = false) : alike l = false := by
  unfold alike
  rw [List.all_eq_false]
  refine ⟨a, List.mem_of_getElem? ha, ?_⟩
  rw [Bool.not_eq_true, List.all_eq_false]
  exact ⟨b, List.mem_of_getElem? hb, by unfold okTwo at h; rw [h]; simp⟩
theorem all_take_more {α : Type} (l : List α) (p : α → Bool) (k : Nat) (x : α) (h : l[k]? = some x) (hx : p x = true) (ha : (l.take k).all p = true) : (l.take (k + 1)).all p = true := by
  rw [List.take_add_one, h, List.all_append, ha]
  simp [hx]

end Go.Proofs.YtfblnomkafimhaaGreat.Chgw

namespace Go.Proofs.YtfblnomkafimhaaGreat.Chgw
set_option maxRecDepth 20000
open Go.RowKit
open Chg Vw

theorem top_lt (l : List (Nat × Nat)) (h : ∀ v ∈ l, v.1 < 64 ∧ v.2 < 64) : (top l).1 < 64 ∧ (top l).2 < 64 := by
  cases l with
  | nil => decide
  | cons x r =>
    show (r.foldl topStep x).1 < 64 ∧ (r.foldl topStep x).2 < 64
    have key : ∀ (r : List (Nat × Nat)) (x : Nat × Nat), (x.1 < 64 ∧ x.2 < 64) → (∀ v ∈ r, v.1 < 64 ∧ v.2 < 64) → (r.foldl topStep x).1 < 64 ∧ (r.foldl topStep x).2 < 64 := by
      intro r
      induction r with
      | nil => intro x hx _; exact hx
      | cons y r ih =>
        intro x hx hr
        refine ih (topStep x y) ?_ (fun v hv => hr v (by simp [hv]))
        unfold topStep
        split
        · exact hr y (by simp)
        · exact hx
    exact key r x (h x (by simp)) (fun v hv => h v (by simp [hv]))


theorem take_eq_more {α : Type} (l m : List α) (k : Nat) (x : α) (h1 : l[k]? = some x) (h2 : m[k]? = some x) (h : l.take k = m.take k) : l.take (k + 1) = m.take (k + 1) := by
  rw [List.take_add_one, List.take_add_one, h1, h2, h]


theorem same_r (A : Option Addr) (n c : Nat) (ls : List (Nat × Nat)) (hn : n = ls.length) (hl : n ≤ 140737488355328) (A1 : Option Addr) (n1 c1 : Nat) (ds : List (Nat × Nat)) (hn1 : n1 = ds.length) (B : Nat) (w : World)
    (hr : Rv w B A ls) (hr1 : Rv w B A1 ds) : Calls Tryz.prog 24 #[.slice A n c, .slice A1 n1 c1] w fun e w' => e = .returned (.bool (ls == ds)) ∧ ∃ k, w' = w.drewN k := by
  have heq := eq_view
  have HN := Lib.hid hn; have HN1 := Lib.hid hn1
  by_cases hlen : n = n1
  · subst hlen
    clear hn hn1
    have HR := Lib.hid hr; clear hr
    have HR1 := Lib.hid hr1; clear hr1
    go_enter Tryz.func24, Tryz.ntmps24
    go_wp2
    go_loopw [13] (fun i wr => ∃ k : Nat, i = .int .i64 k ∧ k ≤ n ∧ ls.take k = ds.take k ∧ ∃ q, wr = w.drewN q) (fun i _ => n - (intOf i).toNat)
    case atStart => exact ⟨0, rfl, by omega, rfl, 0, rfl⟩
    case round =>
      obtain ⟨k, rfl, hk, he, q, rfl⟩ := hrel
      have HE := Lib.hid he; clear he
      by_cases h : k < n
      · obtain ⟨b, o, rfl, _, hcell⟩ := HR.out (by rw [← HN.out]; omega)
        obtain ⟨b1, o1, rfl, _, hcell1⟩ := HR1.out (by rw [← HN1.out]; omega)
        have hkl : k < ls.length := by rw [← HN.out]; exact h
        have hkl1 : k < ds.length := by rw [← HN1.out]; exact h
        have hz : ls[k]? = some ls[k] := List.getElem?_eq_getElem hkl
        have hz1 : ds[k]? = some ds[k] := List.getElem?_eq_getElem hkl1
        have hc0 := hcell k ls[k] hz
        have hc1 := hcell1 k ds[k] hz1
        generalize ls[k] = z at hz hc0
        generalize ds[k] = z1 at hz1 hc1
        obtain ⟨za, zd⟩ := z
        obtain ⟨ya, yd⟩ := z1
        have a0 : w.cell? ⟨b, o + k * 2, none⟩ = some (.int .i64 (za : Int)) := hc0.1
        have a1 : w.cell? ⟨b, o + k * 2 + 1, none⟩ = some (.int .i64 (zd : Int)) := hc0.2
        have b0 : w.cell? ⟨b1, o1 + k * 2, none⟩ = some (.int .i64 (ya : Int)) := hc1.1
        have b1' : w.cell? ⟨b1, o1 + k * 2 + 1, none⟩ = some (.int .i64 (yd : Int)) := hc1.2
        have HZ := Lib.hid hz; have HZ1 := Lib.hid hz1
        clear hz hz1 hcell hcell1 hkl hkl1 hc0 hc1
        have ht : (k : Int) < (n : Int) := by omega
        have ht0 : (0 : Int) ≤ (k : Int) := by omega
        by_cases hzz : za = ya ∧ zd = yd
        · obtain ⟨rfl, rfl⟩ := hzz
          go_wp2
          go_quiet (fail)
          go_wp2
          exact ⟨⟨k + 1, by go_num, by omega, take_eq_more _ _ _ _ HZ.out HZ1.out HE.out, _, rfl⟩, by simp [intOf]; omega⟩
        · have hne : ((za : Int) == (ya : Int) && (zd : Int) == (yd : Int)) = false := by
            rw [Bool.eq_false_iff]
            intro e
            simp at e
            omega
          have HNE := Lib.hid hzz; clear hzz
          go_wp2
          go_quiet (fail)
          go_wp2
          go_ret
          refine ⟨ret_bool ?_, _, World.drewN_drewN _ _ _⟩
          symm
          rw [beq_eq_false_iff_ne]
          intro e
          have h1 := HZ.out
          rw [e, HZ1.out] at h1
          injection h1 with h1
          injection h1 with h1 h2
          exact HNE.out ⟨h1.symm, h2.symm⟩
      · go_wp2
        go_ret
        obtain rfl : k = n := by omega
        have := HE.out
        rw [List.take_of_length_le (by rw [← HN.out]; omega), List.take_of_length_le (by rw [← HN1.out]; omega)] at this
        exact ⟨ret_bool (by rw [this]; simp), q, rfl⟩
  · have HF : Hid ((ls == ds) = false) := Lib.hid (by rw [beq_eq_false_iff_ne]; rintro rfl; omega)
    have hne : ((n : Int) == (n1 : Int)) = false := by rw [beq_eq_false_iff_ne]; omega
    clear hr hr1 hn hn1
    go_enter Tryz.func24, Tryz.ntmps24
    go_wp2
    go_ret
    exact ⟨ret_bool HF.out.symm, 0, rfl⟩
end Go.Proofs.YtfblnomkafimhaaGreat.Chgw

namespace Go.Proofs.YtfblnomkafimhaaGreat.Chgw
set_option maxRecDepth 20000
open Go.RowKit
open Chg Vw

theorem shr1_all : ∀ (d : Fin 64) (k : Fin 6), bits .and .i64 ((d.1 : Int) / 2 ^ k.1) 1 = if d.1.testBit k.1 then 1 else 0 := by decide +kernel
theorem shr1 (d k : Nat) (hd : d < 64) (hk : k < 6) : bits .and .i64 ((d : Int) / 2 ^ k) 1 = if d.testBit k then 1 else 0 := shr1_all ⟨d, hd⟩ ⟨k, hk⟩
theorem with_both (who l : List Int) : withL who l + withoutL who l = l.length := by
  unfold withL withoutL
  induction l with
  | nil => rfl
  | cons x l ih =>
    simp only [List.filter_cons]
    cases who.contains x
    · simp only [Bool.not_false, if_true, Bool.false_eq_true, if_false, List.length_cons]; omega
    · simp only [Bool.not_true, if_true, Bool.false_eq_true, if_false, List.length_cons]; omega
theorem withL_snoc (who l : List Int) (z : Int) : withL who (l ++ [z]) = withL who l + if who.contains z then 1 else 0 := by
  unfold withL
  rw [List.filter_append, List.length_append]
  congr 1
  simp only [List.filter_cons, List.filter_nil]
  cases who.contains z <;> rfl
theorem enough_two (a d : Nat) (who : List Int) : enough a d who = decide (((members a d).length : Int) < 2 * ((withL who (members a d) : Nat) : Int)) := by
  have h := with_both who (members a d)
  unfold enough
  rw [Bool.eq_iff_iff, decide_eq_true_iff, decide_eq_true_iff]
  omega
end Go.Proofs.YtfblnomkafimhaaGreat.Chgw

namespace Go.Proofs.YtfblnomkafimhaaGreat.Chgw
set_option maxRecDepth 20000
open Go.RowKit
open Chg Vw

/-- some draws, and blocks behind: nothing else has turned -/
def Gr (w w' : World) : Prop := ∃ q os, w' = Sort.grow (w.drewN q) os
theorem Gr.refl (w : World) : Gr w w := ⟨0, #[], by rw [Sort.grow_empty]; rfl⟩
theorem Gr.alloc {w w' : World} (h : Gr w w') (o : Obj) : Gr w (w'.alloc o) := by
  obtain ⟨q, os, rfl⟩ := h
  exact ⟨q, os ++ #[o], by rw [Sort.alloc_eq_grow, Sort.grow_grow]⟩
theorem Gr.trans {a b c : World} (h : Gr a b) (k : Gr b c) : Gr a c := by
  obtain ⟨q, os, rfl⟩ := h
  obtain ⟨q2, os2, rfl⟩ := k
  exact ⟨q + q2, os ++ os2, by
    show Sort.grow (Sort.grow ((a.drewN q).drewN q2) os) os2 = _
    rw [Sort.grow_grow, World.drewN_drewN]⟩
theorem Gr.drew {w w' : World} (h : Gr w w') : Gr w w'.drew := h.trans ⟨1, #[], by rw [Sort.grow_empty]; rfl⟩
theorem Gr.drewN {w w' : World} (h : Gr w w') (k : Nat) : Gr w (w'.drewN k) := h.trans ⟨k, #[], by rw [Sort.grow_empty]⟩
theorem Gr.below {w w' : World} (h : Gr w w') : Below w.heap.size w w' := by
  obtain ⟨q, os, rfl⟩ := h
  exact ⟨rfl, rfl, rfl, by rw [Sort.size_grow]; exact Nat.le_add_right _ _, fun k hk => Sort.heap_grow_old _ os hk⟩
theorem size_g (a d : Nat) (ha : a < 64) (hd : d < 64) (w : World) : Calls Tryz.prog 149 #[vw a d] w fun e w' => e = .returned (.int .i64 ((cnt a + cnt d : Nat) : Int)) ∧ Gr w w' := by
  have hca := cnt_le a
  have hcd := cnt_le d
  unfold vw
  go_enter Tryz.func149, Tryz.ntmps149
  go_wp2_with fail
  go_quiet (first | (go_at_call 169; refine Calls.quiet_of_same ((ones_c _ ?_ _).mono fun _ _ h => ⟨h.1, h.2.symm⟩); assumption))
  go_wp2
  go_ret
  exact ⟨ret_i64 (by omega), ((Gr.refl w).alloc _).drewN _⟩
theorem name_g (a d : Nat) (ha : a < 64) (hd : d < 64) (w : World) : Calls Tryz.prog 116 #[vw a d] w fun e w' => e = .returned (.int .i64 ((64 * a + d : Nat) : Int)) ∧ Gr w w' := by
  unfold vw
  go_enter Tryz.func116, Tryz.ntmps116
  go_wp2
  go_ret
  exact ⟨ret_i64 (by omega), (Gr.refl w).alloc _⟩
theorem isnan_c (x : Int) (w : World) : Calls Tryz.prog 156 #[.int .i64 x] w fun e w' => e = .returned (.bool false) ∧ w = w' := by
  go_enter Tryz.func156, Tryz.ntmps156
  go_wp2
  go_ret
  exact ⟨by simp, rfl⟩
theorem cmp_c (x y : Int) (w : World) : Calls Tryz.prog 118 #[.int .i64 x, .int .i64 y] w fun e w' => e = .returned (.int .i64 (cmpI x y)) ∧ w = w' := by
  obtain ⟨r, hr⟩ : ∃ r, r = cmpI x y := ⟨_, rfl⟩
  rw [← hr]
  have HR := Lib.hid hr; clear hr
  unfold cmpI at HR
  go_enter Tryz.func118, Tryz.ntmps118
  go_wp2_with (first | (go_at_call 156; refine (isnan_c _ _).mono ?_; rintro e w' ⟨rfl, rfl⟩))
  · rename_i h
    go_ret
    refine ⟨ret_i64 ?_, rfl⟩
    rw [HR.out, if_pos h]
  · rename_i h1 h2
    go_ret
    refine ⟨ret_i64 ?_, rfl⟩
    rw [HR.out, if_neg (by omega), if_pos h2]
  · rename_i h1 h2
    go_ret
    refine ⟨ret_i64 ?_, rfl⟩
    rw [HR.out, if_neg (by omega), if_neg (by omega)]
theorem or_c (A : Option Addr) (x y : Int) (B : Nat) (w : World) (hr : Rd w B A (([x, y] : List Int).map (Value.int .i64))) :
    Calls Tryz.prog 148 #[.slice A 2 2] w fun e w' => e = .returned (.int .i64 (if x = 0 then y else x)) ∧ w = w' := by
  obtain ⟨b, o, rfl, _, hcell⟩ := hr (by simp)
  have hx := hcell 0 (.int .i64 x) (by simp)
  have hy := hcell 1 (.int .i64 y) (by simp)
  rw [Nat.add_zero] at hx
  clear hcell hr
  obtain ⟨r, hr⟩ : ∃ r, r = if x = 0 then y else x := ⟨_, rfl⟩
  rw [← hr]
  have HR := Lib.hid hr; clear hr
  go_enter Tryz.func148, Tryz.ntmps148
  go_wp2
  go_loop [8] (fun i => ∃ k : Nat, i = .int .i64 k ∧ (k = 0 ∨ (k = 1 ∧ x = 0) ∨ (k = 2 ∧ x = 0 ∧ y = 0))) (fun i => 2 - (intOf i).toNat)
  case atStart => exact ⟨0, rfl, Or.inl rfl⟩
  case round =>
    obtain ⟨k, rfl, rfl | ⟨rfl, h0⟩ | ⟨rfl, h0, h1⟩⟩ := hrel
    · by_cases h0 : x = 0
      · have HX := Lib.hid h0
        have hq : (x != 0) = false := by rw [h0]; rfl
        clear h0
        go_wp2
        exact ⟨⟨1, rfl, Or.inr (Or.inl ⟨rfl, HX.out⟩)⟩, by simp [intOf]⟩
      · have hq : (x != 0) = true := by rw [bne_iff_ne]; exact h0
        have HE : Hid (r = x) := Lib.hid (by rw [HR.out, if_neg h0])
        clear h0
        go_wp2
        go_ret
        exact ⟨ret_i64 HE.out.symm, rfl⟩
    · have HE : Hid (r = y) := Lib.hid (by rw [HR.out, if_pos h0])
      have HX := Lib.hid h0
      clear h0 hx
      by_cases h1 : y = 0
      · have HY := Lib.hid h1
        have hq : (y != 0) = false := by rw [h1]; rfl
        clear h1
        go_wp2
        exact ⟨⟨2, rfl, Or.inr (Or.inr ⟨rfl, HX.out, HY.out⟩)⟩, by simp [intOf]⟩
      · have hq : (y != 0) = true := by rw [bne_iff_ne]; exact h1
        clear h1
        go_wp2
        go_ret
        exact ⟨ret_i64 HE.out.symm, rfl⟩
    · have HE : Hid (r = 0) := Lib.hid (by rw [HR.out, if_pos h0, h1])
      clear h0 h1
      go_wp2
      go_ret
      exact ⟨ret_i64 HE.out.symm, rfl⟩
set_option maxHeartbeats 1000000 in
theorem order_g (u v : Nat × Nat) (hu : u.1 < 64 ∧ u.2 < 64) (hv : v.1 < 64 ∧ v.2 < 64) (w : World) : Calls Tryz.prog 104 #[vw u.1 u.2, vw v.1 v.2] w fun e w' => e = .returned (.int .i64 (ordV u v)) ∧ Gr w w' := by
  obtain ⟨a, d⟩ := u
  obtain ⟨b, c⟩ := v
  have ha : a < 64 := hu.1
  have hd : d < 64 := hu.2
  have hb : b < 64 := hv.1
  have hc : c < 64 := hv.2
  clear hu hv
  have HL : Hid (ordV (a, d) (b, c) = if cmpI ((cnt a + cnt d : Nat) : Int) ((cnt b + cnt c : Nat) : Int) = 0 then cmpI ((64 * a + d : Nat) : Int) ((64 * b + c : Nat) : Int) else cmpI ((cnt a + cnt d : Nat) : Int) ((cnt b + cnt c : Nat) : Int)) := Lib.hid rfl
  generalize ordV (a, d) (b, c) = r at HL ⊢
  have HS1 := Lib.hid (size_g a d ha hd)
  have HS2 := Lib.hid (size_g b c hb hc)
  have HN1 := Lib.hid (name_g a d ha hd)
  have HN2 := Lib.hid (name_g b c hb hc)
  generalize ((cnt a + cnt d : Nat) : Int) = s1 at HL HS1
  generalize ((cnt b + cnt c : Nat) : Int) = s2 at HL HS2
  generalize ((64 * a + d : Nat) : Int) = n1 at HL HN1
  generalize ((64 * b + c : Nat) : Int) = n2 at HL HN2
  show Calls Tryz.prog 104 #[vw a d, vw b c] w _
  unfold vw
  go_enter Tryz.func104, Tryz.ntmps104
  go_wp2_with fail
  have V1 := Lib.hid (show Vx ((w.alloc (.cells #[.int .i64 (a : Int), .int .i64 (d : Int)] 26)).alloc (.cells #[.int .i64 (b : Int), .int .i64 (c : Int)] 26)) w.heap.size a d from hbe (hat _ _ _ rfl))
  have V2 := Lib.hid (show Vx ((w.alloc (.cells #[.int .i64 (a : Int), .int .i64 (d : Int)] 26)).alloc (.cells #[.int .i64 (b : Int), .int .i64 (c : Int)] 26)) (w.heap.size + 1) b c from hat _ _ _ (by simp))
  have HG := Lib.hid (((Gr.refl w).alloc (.cells #[.int .i64 (a : Int), .int .i64 (d : Int)] 26)).alloc (.cells #[.int .i64 (b : Int), .int .i64 (c : Int)] 26))
  generalize ((w.alloc (.cells #[.int .i64 (a : Int), .int .i64 (d : Int)] 26)).alloc (.cells #[.int .i64 (b : Int), .int .i64 (c : Int)] 26)) = w1 at V1 V2 HG ⊢
  have HK : Hid (∀ W', Gr w1 W' → (W'.cell? ⟨w.heap.size, 0, none⟩ = some (.int .i64 (a : Int)) ∧ W'.cell? ⟨w.heap.size, 1, none⟩ = some (.int .i64 (d : Int))) ∧ (W'.cell? ⟨w.heap.size + 1, 0, none⟩ = some (.int .i64 (b : Int)) ∧ W'.cell? ⟨w.heap.size + 1, 1, none⟩ = some (.int .i64 (c : Int)))) := Lib.hid (by
    intro W' h
    have V1 := V1.out.below h.below V1.out.lt
    have V2 := V2.out.below h.below V2.out.lt
    exact ⟨⟨V1.c0, V1.c1⟩, V2.c0, V2.c1⟩)
  clear V1 V2
  refine wp_region_held_drew (S := fun W' => Gr w1 W') (by kernel_rfl) (Gr.refl _).drew (fun hHeld => ?_)
  generalize w1.drew = w2 at hHeld ⊢
  have HG2 : Hid (Gr w1 w2) := hHeld
  clear hHeld
  refine take_in (i := 0) (oi := ⟨_, _, _, _, _, _⟩) (v := ?_) rfl (by kernel_rfl) (by kernel_rfl) (by kernel_rfl) (fun _ _ _ h => h) (by rfl) ?_ HG2.out ?_
  rotate_left
  · intro W hW; have hq := HK.out W hW; go_simp; with_reducible rfl
  simp only [Act.put, List.setIfInBounds_toArray, List.set_cons_zero, List.set_cons_succ]
  refine take_in (i := 2) (oi := ⟨_, _, _, _, _, _⟩) (v := ?_) rfl (by kernel_rfl) (by kernel_rfl) (by kernel_rfl) (fun _ _ _ h => h) (by rfl) ?_ HG2.out ?_
  rotate_left
  · intro W hW; have hq := HK.out W hW; go_simp; with_reducible rfl
  simp only [Act.put, List.setIfInBounds_toArray, List.set_cons_zero, List.set_cons_succ]
  refine take_in (i := 5) (oi := ⟨_, _, _, _, _, _⟩) (v := ?_) rfl (by kernel_rfl) (by kernel_rfl) (by kernel_rfl) (fun _ _ _ h => h) (by rfl) ?_ HG2.out ?_
  rotate_left
  · intro W hW; have hq := HK.out W hW; go_simp; with_reducible rfl
  simp only [Act.put, List.setIfInBounds_toArray, List.set_cons_zero, List.set_cons_succ]
  refine take_in (i := 7) (oi := ⟨_, _, _, _, _, _⟩) (v := ?_) rfl (by kernel_rfl) (by kernel_rfl) (by kernel_rfl) (fun _ _ _ h => h) (by rfl) ?_ HG2.out ?_
  rotate_left
  · intro W hW; have hq := HK.out W hW; go_simp; with_reducible rfl
  simp only [Act.put, List.setIfInBounds_toArray, List.set_cons_zero, List.set_cons_succ]
  refine wpAnyH_ready (rs := [1]) (by kernel_rfl) (by simp) ?_
  refine AllReadyH.cons (o := ⟨_, _, _, _, _, _⟩) rfl (fun K hK => ?_) AllReadyH.nil
  go_simp
  refine (HS1.out _).mono ?_
  rintro e w3 ⟨rfl, hg⟩
  have HG3 := Lib.hid (HG2.out.trans hg); clear hg
  refine hK.out _ _ HG3.out (fun _ => ?_)
  clear hK K
  refine wpAnyH_ready (rs := [3]) (by kernel_rfl) (by simp) ?_
  refine AllReadyH.cons (o := ⟨_, _, _, _, _, _⟩) rfl (fun K hK => ?_) AllReadyH.nil
  go_simp
  refine (HS2.out _).mono ?_
  rintro e w4 ⟨rfl, hg⟩
  have HG4 := Lib.hid (HG3.out.trans hg); clear hg
  refine hK.out _ _ HG4.out (fun _ => ?_)
  clear hK K
  refine wpAnyH_ready (rs := [4]) (by kernel_rfl) (by simp) ?_
  refine AllReadyH.cons (o := ⟨_, _, _, _, _, _⟩) rfl (fun K hK => ?_) AllReadyH.nil
  go_simp
  refine (cmp_c s1 s2 _).mono ?_
  rintro e w5 ⟨rfl, rfl⟩
  refine hK.out _ _ HG4.out (fun _ => ?_)
  clear hK K
  generalize cmpI s1 s2 = x at HL ⊢
  refine wpAnyH_ready (rs := [6]) (by kernel_rfl) (by simp) ?_
  refine AllReadyH.cons (o := ⟨_, _, _, _, _, _⟩) rfl (fun K hK => ?_) AllReadyH.nil
  go_simp
  refine (HN1.out _).mono ?_
  rintro e w6 ⟨rfl, hg⟩
  have HG6 := Lib.hid (HG4.out.trans hg); clear hg
  refine hK.out _ _ HG6.out (fun _ => ?_)
  clear hK K
  refine wpAnyH_ready (rs := [8]) (by kernel_rfl) (by simp) ?_
  refine AllReadyH.cons (o := ⟨_, _, _, _, _, _⟩) rfl (fun K hK => ?_) AllReadyH.nil
  go_simp
  refine (HN2.out _).mono ?_
  rintro e w7 ⟨rfl, hg⟩
  have HG7 := Lib.hid (HG6.out.trans hg); clear hg
  refine hK.out _ _ HG7.out (fun _ => ?_)
  clear hK K
  refine wpAnyH_ready (rs := [9]) (by kernel_rfl) (by simp) ?_
  refine AllReadyH.cons (o := ⟨_, _, _, _, _, _⟩) rfl (fun K hK => ?_) AllReadyH.nil
  go_simp
  refine (cmp_c n1 n2 _).mono ?_
  rintro e w8 ⟨rfl, rfl⟩
  refine hK.out _ _ HG7.out (fun _ => ?_)
  clear hK K
  generalize cmpI n1 n2 = y at HL ⊢
  refine wpAnyH_ready (rs := [10]) (by kernel_rfl) (by simp) ?_
  refine AllReadyH.cons (o := ⟨_, _, _, _, _, _⟩) rfl (fun K hK => ?_) AllReadyH.nil
  go_simp
  refine hK.out _ _ (HG7.out.alloc _) (fun _ => ?_)
  clear hK K
  have RX := Lib.hid (show Rd (w7.alloc (.cells #[.int .i64 x, .int .i64 y] 3)) (w7.heap.size + 1) (some ⟨w7.heap.size, 0, none⟩) (([x, y] : List Int).map (Value.int .i64)) from rdI_any w7 [x, y])
  have HG9 := Lib.hid (HG7.out.alloc (.cells #[.int .i64 x, .int .i64 y] 3))
  generalize w7.alloc (.cells #[.int .i64 x, .int .i64 y] 3) = w9 at RX HG9 ⊢
  generalize w7.heap.size = gRX at RX ⊢
  refine wpAnyH_ready (rs := [11]) (by kernel_rfl) (by simp) ?_
  refine AllReadyH.cons (o := ⟨_, _, _, _, _, _⟩) rfl (fun K hK => ?_) AllReadyH.nil
  go_simp
  refine (or_c _ x y _ _ RX.out).mono ?_
  rw [← HL.out]
  rintro e w10 ⟨rfl, rfl⟩
  refine hK.out _ _ HG9.out (fun _ => ?_)
  clear hK K
  refine take_in (i := 12) (oi := ⟨_, _, _, _, _, _⟩) (v := ?_) rfl (by kernel_rfl) (by kernel_rfl) (by kernel_rfl) (fun _ _ _ h => h) (by rfl) ?_ HG9.out ?_
  rotate_left
  · intro W hW; go_simp; with_reducible rfl
  simp only [Act.put, List.setIfInBounds_toArray, List.set_cons_zero, List.set_cons_succ]
  refine wpAnyH_done (by kernel_rfl) ?_ _
  go_wp2
  go_ret
  exact ⟨rfl, HG.out.trans HG9.out⟩
theorem vless_c (u v : Nat × Nat) (hu : u.1 < 64 ∧ u.2 < 64) (hv : v.1 < 64 ∧ v.2 < 64) (w : World) : Calls Tryz.prog 63 #[vw u.1 u.2, vw v.1 v.2] w fun e w' => e = .returned (.bool (less u v)) ∧ Below w.heap.size w w' := by
  rw [← ordV_neg]
  obtain ⟨a, d⟩ := u
  obtain ⟨b, c⟩ := v
  have HO : Hid (∀ W, Calls Tryz.prog 104 #[vw a d, vw b c] W fun e w' => e = .returned (.int .i64 (ordV (a, d) (b, c))) ∧ Gr W w') := Lib.hid (fun W => order_g (a, d) (b, c) hu hv W)
  clear hu hv
  generalize ordV (a, d) (b, c) = r at HO ⊢
  show Calls Tryz.prog 63 #[vw a d, vw b c] w _
  unfold vw
  go_enter Tryz.func63, Tryz.ntmps63
  go_wp2_with fail
  have HG := Lib.hid (((Gr.refl w).alloc (.cells #[.int .i64 (a : Int), .int .i64 (d : Int)] 26)).alloc (.cells #[.int .i64 (b : Int), .int .i64 (c : Int)] 26))
  refine (HO.out _).mono ?_
  rintro e w2 ⟨rfl, hg⟩
  have HG2 := Lib.hid (HG.out.trans hg); clear hg
  go_wp2
  go_ret
  exact ⟨rfl, HG2.out.below⟩
end Go.Proofs.YtfblnomkafimhaaGreat.Chgw
