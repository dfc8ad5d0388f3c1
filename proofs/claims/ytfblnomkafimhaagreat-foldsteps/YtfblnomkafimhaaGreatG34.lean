/- Contracts and words on which the claims of this seat stand, part 34: RowP RowPb RowPc FoN FoC FoD. -/
import Derived.Test.YtfblnomkafimhaaGreatG07
import Derived.Test.YtfblnomkafimhaaGreatG18
import Derived.Test.YtfblnomkafimhaaGreatG24
import Derived.Test.YtfblnomkafimhaaGreatG31
import Derived.Test.YtfblnomkafimhaaGreatG32
import Derived.Laws.IdiomCopy
set_option linter.unusedSimpArgs false
set_option linter.unusedVariables false
namespace Go.Proofs.YtfblnomkafimhaaGreat
set_option maxRecDepth 20000
open Go.RowKit
namespace Rg
variable {α : Type} {K : Kind α}

theorem flat_app (xs ys : List α) : flat K (xs ++ ys) = flat K xs ++ flat K ys := by unfold flat; rw [List.flatMap_append]
theorem flat_take (xs : List α) (i : Nat) (hi : i ≤ xs.length) : flat K (xs.take i) = (flat K xs).take (i * K.k) := by
  have h := flat_app (K := K) (xs.take i) (xs.drop i)
  rw [List.take_append_drop] at h
  have hl : (flat K (xs.take i)).length = i * K.k := by rw [flat_len, List.length_take, Nat.min_eq_left hi]
  have hle : (flat K (xs.take i)).length ≤ i * K.k := Nat.le_of_eq hl
  rw [h, List.take_append_of_le_length (Nat.le_of_eq hl.symm), List.take_of_length_le hle]
theorem flat_drop (xs : List α) (i : Nat) (hi : i ≤ xs.length) : flat K (xs.drop i) = (flat K xs).drop (i * K.k) := by
  have h := flat_app (K := K) (xs.take i) (xs.drop i)
  rw [List.take_append_drop] at h
  have hl : (flat K (xs.take i)).length = i * K.k := by rw [flat_len, List.length_take, Nat.min_eq_left hi]
  have hle : (flat K (xs.take i)).length ≤ i * K.k := Nat.le_of_eq hl
  rw [h, List.drop_append_of_le_length (Nat.le_of_eq hl.symm), List.drop_eq_nil_of_le hle, List.nil_append]
/-- x between what stands ahead of place i and what stands from it on -/
def ins (xs : List α) (i : Nat) (x : α) : List α := xs.take i ++ x :: xs.drop i
theorem ins_len (xs : List α) (i : Nat) (x : α) (hi : i ≤ xs.length) : (ins xs i x).length = xs.length + 1 := by
  unfold ins; rw [List.length_append, List.length_cons, List.length_take, List.length_drop, Nat.min_eq_left hi]; omega
theorem ins_end (xs : List α) (x : α) : ins xs xs.length x = xs ++ [x] := by unfold ins; rw [List.take_length, List.drop_length]
theorem flat_ins (xs : List α) (i : Nat) (x : α) (hi : i ≤ xs.length) : flat K (ins xs i x) = (flat K xs).take (i * K.k) ++ (K.cells x ++ (flat K xs).drop (i * K.k)) := by
  unfold ins
  rw [flat_app, flat_take _ _ hi, show flat K (x :: xs.drop i) = K.cells x ++ flat K (xs.drop i) from rfl, flat_drop _ _ hi]
/-- what is known of an own row's block -/
theorem OwnG.row {w : World} {base : Nat} {g n c : Nat} {xs : List α} (h : OwnG K w base (some ⟨g, 0, none⟩) n c xs) : base ≤ g ∧ n ≤ c ∧ c ≤ maxLen ∧ ∃ cur, w.heap[g]? = some (.cells cur K.T (0, 0)) ∧ cur.size = c * K.k ∧ cur.toList.take (n * K.k) = flat K xs := by
  rcases h.2.2 with ⟨h0, _⟩ | ⟨g', cap, cur, e, hb, hh, hn, hm, hs, ht⟩
  · cases h0
  · injection e with e1 e2 e3
    injection e1 with e4
    injection e4 with e5
    subst e5; subst e3
    exact ⟨hb, hn, hm, cur, hh, hs, ht⟩
theorem OwnG.at0 {w : World} {base n c : Nat} {A : Option Addr} {xs : List α} (h : OwnG K w base A n c xs) (hn : 0 < n) : ∃ g, A = some ⟨g, 0, none⟩ ∧ g < w.heap.size := by
  rcases h.2.2 with ⟨_, h0⟩ | ⟨g', cap, cur, e, hb, hh, _⟩
  · omega
  · injection e with e1 e2 e3
    exact ⟨g', e1, (Array.getElem?_eq_some_iff.1 hh).1⟩
theorem OwnG.of_row {w : World} {base g n c : Nat} {xs : List α} {cur : Array Value} (hn : n = xs.length) (hb : base ≤ g) (hh : w.heap[g]? = some (.cells cur K.T (0, 0))) (hc : n ≤ c) (hm : c ≤ maxLen) (hs : cur.size = c * K.k) (ht : cur.toList.take (n * K.k) = flat K xs) : OwnG K w base (some ⟨g, 0, none⟩) n c xs :=
  ⟨hn, by rw [flat_len, hn], .inr ⟨g, c, cur, rfl, hb, hh, hc, hm, hs, ht⟩⟩
theorem grown_setRow (w : World) (g : Nat) (cur : Array Value) : w.grownBy (w.setRow g cur) (some g) :=
  ⟨rfl, rfl, rfl, by simp [World.setRow], fun k _ hne => by
    have hne' : ¬ g = k := fun e => hne (by rw [e])
    simp [World.setRow, Array.getElem?_modify, hne']⟩
theorem grown_trans {w w1 w2 : World} {row : Option Nat} (h1 : w.grownBy w1 row) (h2 : w1.grownBy w2 row) : w.grownBy w2 row :=
  ⟨h2.os.trans h1.os, h2.tape.trans h1.tape, h2.output.trans h1.output, Nat.le_trans h1.size h2.size, fun k hk hne => (h2.block k (Nat.lt_of_lt_of_le hk h1.size) hne).trans (h1.block k hk hne)⟩
/-- copy(dst, src) of elements of k cells, dst in a row -/
theorem run_copy_rowG {P : Program} (w : World) (dT sT ty elem : TypeId) (k g o dLen dCap : Nat) (a : Addr) (sLen sCap m : Nat) (cur : Array Value) (t : TypeId) (cs : List Value)
    (hu : P.underlying dT = some (.slice elem)) (hs : (P.info? elem).map (·.size) = some k)
    (hg : w.heap[g]? = some (.cells cur t (0, 0))) (hm : m = Nat.min sLen dLen) (hn : cs.length = m * k)
    (hsrc : ∀ j v, cs[j]? = some v → w.cell? (a.add j) = some v) (hfit : o + cs.length ≤ cur.size) (h1 : ∀ v ∈ cs, v.oneCell' = true) :
    (Builtin.copy_ #[dT, sT] ty #[.slice (some ⟨g, o, none⟩) dLen dCap, .slice (some a) sLen sCap]).run P w =
      .ok (goInt m) (w.setRow g (cur.toList.take o ++ cs ++ cur.toList.drop (o + cs.length)).toArray) := by
  have hl := run_loadCells_list (P := P) w a cs hsrc
  have hst := run_storeCells_at P g o t cs 0 cur w hg (by simpa using hfit) h1
  cases hq : P.info? elem with
  | none => simp [hq] at hs
  | some i =>
    have hi : i.size = k := by simpa [hq] using hs
    simp [Builtin.copy_, run_underlying hu, Builtin.lenOf, Builtin.firstCells, sizeOf, typeInfo, hq, hi, ← hm, ← hn, hl, hst]
theorem heap_setRow (w : World) (g : Nat) (cur cur' : Array Value) (t : TypeId) (fr : Nat × Nat) (hg : w.heap[g]? = some (.cells cur t fr)) : (w.setRow g cur').heap[g]? = some (.cells cur' t fr) := setRow_heap w g cur cur' t fr hg
theorem seg_len (l cs : List Value) (o : Nat) (h : o + cs.length ≤ l.length) : (l.take o ++ cs ++ l.drop (o + cs.length)).length = l.length := by
  rw [List.length_append, List.length_append, List.length_take, List.length_drop, Nat.min_eq_left (by omega)]; omega
theorem seg_get (l cs : List Value) (o : Nat) (h : o + cs.length ≤ l.length) (j : Nat) : (l.take o ++ cs ++ l.drop (o + cs.length))[j]? = if j < o then l[j]? else if j < o + cs.length then cs[j - o]? else l[j]? := by
  have ht : (l.take o).length = o := by rw [List.length_take, Nat.min_eq_left (by omega)]
  rcases Nat.lt_or_ge j o with h1 | h1
  · rw [List.append_assoc, List.getElem?_append_left (by omega), List.getElem?_take, if_pos h1, if_pos h1]
  · rw [if_neg (by omega)]
    rcases Nat.lt_or_ge j (o + cs.length) with h2 | h2
    · rw [if_pos h2, List.getElem?_append_left (by rw [List.length_append]; omega), List.getElem?_append_right (by omega), ht]
    · rw [if_neg (by omega), List.getElem?_append_right (by rw [List.length_append]; omega), List.getElem?_drop, List.length_append, ht]
      congr 1
      omega
/-- two copies: what stood from i on one place further, then x at place i -/
theorem two_copies {L F X : List Value} {k i n : Nat} (hF : F.length = n * k) (hX : X.length = k) (hi : i ≤ n) (L1 L2 : List Value) (hlen : (n + 1) * k ≤ L.length)
    (h1 : ∀ j, L1[j]? = if j < (i + 1) * k then L[j]? else if j < (i + 1) * k + (n - i) * k then (F.drop (i * k))[j - (i + 1) * k]? else L[j]?)
    (h2 : ∀ j, L2[j]? = if j < i * k then L1[j]? else if j < i * k + k then X[j - i * k]? else L1[j]?)
    (ht : ∀ j, j < i * k → L[j]? = F[j]?) : L2.take ((n + 1) * k) = F.take (i * k) ++ (X ++ F.drop (i * k)) := by
  have e1 : (i + 1) * k = i * k + k := by rw [Nat.add_mul]; omega
  have e2 : (n + 1) * k = n * k + k := by rw [Nat.add_mul]; omega
  have e3 : (n - i) * k = n * k - i * k := Nat.sub_mul n i k
  have e4 : i * k ≤ n * k := Nat.mul_le_mul_right k hi
  have hA : (F.take (i * k)).length = i * k := by rw [List.length_take, Nat.min_eq_left (by omega)]
  rw [e1, e3] at h1
  rw [e2] at hlen
  rw [e2]
  apply List.ext_getElem?
  intro j
  rw [List.getElem?_take]
  by_cases hj : j < n * k + k
  · rw [if_pos hj, h2]
    rcases Nat.lt_or_ge j (i * k) with c1 | c1
    · rw [if_pos c1, h1, if_pos (by omega), ht j c1, List.getElem?_append_left (by omega), List.getElem?_take, if_pos c1]
    · rw [if_neg (by omega), List.getElem?_append_right (by omega), hA]
      rcases Nat.lt_or_ge j (i * k + k) with c2 | c2
      · rw [if_pos c2, List.getElem?_append_left (by omega)]
      · rw [if_neg (by omega), h1, if_neg (by omega), if_pos (by omega), List.getElem?_append_right (by omega), hX]
        congr 1
        omega
  · rw [if_neg hj]
    symm
    apply List.getElem?_eq_none
    rw [List.length_append, List.length_append, hA, hX, List.length_drop]
    omega
/-- .. the other way round: x at place i of a longer row, then what stood from i on behind it -/
theorem two_copies' {L F X : List Value} {k i n : Nat} (hF : F.length = n * k) (hX : X.length = k) (hi : i ≤ n) (L1 L2 : List Value)
    (h1 : ∀ j, L1[j]? = if j < i * k then L[j]? else if j < i * k + k then X[j - i * k]? else L[j]?)
    (h2 : ∀ j, L2[j]? = if j < (i + 1) * k then L1[j]? else if j < (i + 1) * k + (n - i) * k then (F.drop (i * k))[j - (i + 1) * k]? else L1[j]?)
    (ht : ∀ j, j < i * k → L[j]? = F[j]?) : L2.take ((n + 1) * k) = F.take (i * k) ++ (X ++ F.drop (i * k)) := by
  have e1 : (i + 1) * k = i * k + k := by rw [Nat.add_mul]; omega
  have e2 : (n + 1) * k = n * k + k := by rw [Nat.add_mul]; omega
  have e3 : (n - i) * k = n * k - i * k := Nat.sub_mul n i k
  have e4 : i * k ≤ n * k := Nat.mul_le_mul_right k hi
  have hA : (F.take (i * k)).length = i * k := by rw [List.length_take, Nat.min_eq_left (by omega)]
  rw [e1, e3] at h2
  rw [e2]
  apply List.ext_getElem?
  intro j
  rw [List.getElem?_take]
  by_cases hj : j < n * k + k
  · rw [if_pos hj, h2]
    rcases Nat.lt_or_ge j (i * k) with c1 | c1
    · rw [if_pos (by omega), h1, if_pos c1, ht j c1, List.getElem?_append_left (by omega), List.getElem?_take, if_pos c1]
    · rw [List.getElem?_append_right (by omega), hA]
      rcases Nat.lt_or_ge j (i * k + k) with c2 | c2
      · rw [if_pos (by omega), h1, if_neg (by omega), if_pos c2, List.getElem?_append_left (by omega)]
      · rw [if_neg (by omega), if_pos (by omega), List.getElem?_append_right (by omega), hX]
        congr 1
        omega
  · rw [if_neg hj]
    symm
    apply List.getElem?_eq_none
    rw [List.length_append, List.length_append, hA, hX, List.length_drop]
    omega
end Rg
end Go.Proofs.YtfblnomkafimhaaGreat

namespace Go.Proofs.YtfblnomkafimhaaGreat
set_option maxRecDepth 20000
open Go.RowKit
namespace Rg
variable {α : Type} {K : Kind α}
theorem flat_set (xs : List α) (p : Nat) (x : α) (hp : p < xs.length) : flat K (xs.set p x) = (flat K xs).take (p * K.k) ++ K.cells x ++ (flat K xs).drop (p * K.k + (K.cells x).length) := by
  have e : xs.set p x = xs.take p ++ x :: xs.drop (p + 1) := List.set_eq_take_append_cons_drop.trans (by rw [if_pos hp])
  rw [e, flat_app, flat_take _ _ (by omega), show flat K (x :: xs.drop (p + 1)) = K.cells x ++ flat K (xs.drop (p + 1)) from rfl, flat_drop _ _ (by omega), K.len, Nat.add_mul, Nat.one_mul, List.append_assoc]
theorem setCells_row (w : World) (g o : Nat) (cur : Array Value) (t : TypeId) (vs : List Value) (hg : w.heap[g]? = some (.cells cur t (0, 0))) (hfit : o + vs.length ≤ cur.size) (h1 : ∀ v ∈ vs, v.oneCell' = true) : w.setCells g o vs = w.setRow g (cur.toList.take o ++ vs ++ cur.toList.drop (o + vs.length)).toArray := by
  have ha := run_storeCells_at Tryz.prog g o t vs 0 cur w hg (by simpa using hfit) h1
  have hb := run_storeCells_cells (P := Tryz.prog) g o vs 0 w (fun j hj => by rw [cell_of_row _ _ _ _ _ _ hg, Array.getElem?_eq_getElem (by omega)]; rfl) (fun j hj => frozen_of_row w g _ _ _ hg) h1
  rw [ha] at hb
  simp only [Nat.add_zero] at hb
  injection hb with h1 h2
  exact h2.symm
theorem OwnG.put {w : World} {base g n c p : Nat} {xs : List α} (h : OwnG K w base (some ⟨g, 0, none⟩) n c xs) (hp : p < n) (x : α) : OwnG K (w.setCells g (p * K.k) (K.cells x)) base (some ⟨g, 0, none⟩) n c (xs.set p x) ∧ w.grownBy (w.setCells g (p * K.k) (K.cells x)) (some g) := by
  obtain ⟨hb, hn, hm, cur, hh, hs, ht⟩ := h.row
  have hl : n = xs.length := h.1
  have hk : p * K.k + K.k ≤ n * K.k := by
    have := Nat.mul_le_mul_right K.k (show p + 1 ≤ n from hp)
    rw [Nat.add_mul, Nat.one_mul] at this
    exact this
  have hc : n * K.k ≤ c * K.k := Nat.mul_le_mul_right _ hn
  have hfit : p * K.k + (K.cells x).length ≤ cur.toList.length := by rw [K.len, Array.length_toList, hs]; omega
  rw [setCells_row w g _ cur K.T _ hh (by rw [← Array.length_toList]; exact hfit) (K.one x)]
  refine ⟨OwnG.of_row (by rw [List.length_set, hl]) hb (heap_setRow _ _ _ _ _ _ hh) hn hm (by show List.length _ = _; rw [seg_len _ _ _ hfit, Array.length_toList, hs]) ?_, grown_setRow _ _ _⟩
  rw [flat_set _ _ _ (by omega), ← ht]
  have hfl : n * K.k ≤ cur.toList.length := by rw [Array.length_toList, hs]; exact hc
  show (cur.toList.take _ ++ _ ++ cur.toList.drop _).take _ = _
  apply List.ext_getElem?
  intro j
  rw [List.getElem?_take, seg_get _ _ _ hfit, seg_get _ _ _ (by rw [List.length_take, K.len]; omega)]
  rw [K.len]
  by_cases hj : j < n * K.k
  · rw [if_pos hj]
    split
    · rw [List.getElem?_take, if_pos hj]
    · split
      · rfl
      · rw [List.getElem?_take, if_pos hj]
  · rw [if_neg hj, if_neg (by omega), if_neg (by omega), List.getElem?_take, if_neg hj]
theorem below_grown {w w' : World} (h : Below w.heap.size w w') (row : Option Nat) : w.grownBy w' row := ⟨h.os, h.tape, h.output, h.size, fun k hk _ => h.block k hk⟩
end Rg
end Go.Proofs.YtfblnomkafimhaaGreat

namespace Go.Proofs.YtfblnomkafimhaaGreat
set_option maxRecDepth 20000
open Go.RowKit
namespace Rg
variable {α : Type} {K : Kind α}
theorem set_app (l1 l2 l3 : List Value) (j : Nat) (u : Value) (hj : j < l2.length) : (l1 ++ l2 ++ l3).set (l1.length + j) u = l1 ++ l2.set j u ++ l3 := by
  rw [List.append_assoc, List.append_assoc, List.set_append_right _ _ (by omega), Nat.add_sub_cancel_left, List.set_append_left _ _ hj]
/-- one cell of one element stored over -/
theorem OwnG.cell {w : World} {base g n c p j : Nat} {xs : List α} {x x' : α} {u : Value} (h : OwnG K w base (some ⟨g, 0, none⟩) n c xs) (hp : xs[p]? = some x) (hj : j < K.k) (hx : K.cells x' = (K.cells x).set j u) : OwnG K (w.setCell ⟨g, p * K.k + j, none⟩ u) base (some ⟨g, 0, none⟩) n c (xs.set p x') ∧ w.grownBy (w.setCell ⟨g, p * K.k + j, none⟩ u) (some g) := by
  obtain ⟨hb, hn, hm, cur, hh, hs, ht⟩ := h.row
  obtain ⟨hpl, hpe⟩ := List.getElem?_eq_some_iff.1 hp
  have hl : n = xs.length := h.1
  refine ⟨OwnG.of_row (cur := cur.setIfInBounds (p * K.k + j) u) (by rw [List.length_set, hl]) hb (heap_setCell_same w g _ cur K.T u hh) hn hm (by rw [Array.size_setIfInBounds]; exact hs) ?_, ⟨rfl, rfl, rfl, by rw [World.size_setCell]; exact Nat.le_refl _, fun k _ hne => Below.heap_setCell w ⟨g, p * K.k + j, none⟩ u k (fun e => hne (by rw [e]))⟩⟩
  have hk : p * K.k + K.k ≤ n * K.k := by
    have := Nat.mul_le_mul_right K.k (show p + 1 ≤ n by omega)
    rw [Nat.add_mul, Nat.one_mul] at this
    exact this
  have e1 : flat K xs = (flat K xs).take (p * K.k) ++ K.cells x ++ (flat K xs).drop (p * K.k + (K.cells x).length) := by
    have := flat_set (K := K) xs p x hpl
    rw [← hpe, List.set_getElem_self] at this
    rw [← hpe]
    exact this
  have hlt : ((flat K xs).take (p * K.k)).length = p * K.k := by rw [List.length_take, flat_len, ← hl]; exact Nat.min_eq_left (by omega)
  rw [Array.toList_setIfInBounds, List.take_set, ht, flat_set xs p x' hpl]
  have hs2 := set_app ((flat K xs).take (p * K.k)) (K.cells x) ((flat K xs).drop (p * K.k + (K.cells x).length)) j u (by rw [K.len]; exact hj)
  rw [hlt, ← e1, ← hx] at hs2
  rw [hs2, K.len, K.len]
end Rg
end Go.Proofs.YtfblnomkafimhaaGreat

namespace Go.Proofs.YtfblnomkafimhaaGreat.Fo
set_option maxRecDepth 20000
open Chg Vw Cl Bk Lg
section
variable {α : Type}
/-- what stands ahead of place p has a lesser name than m, what stands from it on has not -/
def Cut (l : List ((Nat × Nat) × α)) (m p : Nat) : Prop := p ≤ l.length ∧ (∀ (t : Nat) x, t < p → l[t]? = some x → name2 x.1 < m) ∧ ∀ (t : Nat) x, p ≤ t → l[t]? = some x → m ≤ name2 x.1
/-- does the name itself stand at place p? -/
def hitN (l : List ((Nat × Nat) × α)) (m p : Nat) : Bool := match l[p]? with
  | some x => decide (name2 x.1 = m)
  | none => false
theorem sd_get {l : List ((Nat × Nat) × α)} (h : Sd l) {i j : Nat} {x y : (Nat × Nat) × α} (hx : l[i]? = some x) (hy : l[j]? = some y) (hij : i < j) : name2 x.1 < name2 y.1 := by
  obtain ⟨hi, rfl⟩ := List.getElem?_eq_some_iff.1 hx
  obtain ⟨hj, rfl⟩ := List.getElem?_eq_some_iff.1 hy
  exact List.pairwise_iff_getElem.1 h i j hi hj hij
theorem hit_some {l : List ((Nat × Nat) × α)} (hs : Sd l) (ha : A64 l) {v : (Nat × Nat)} (hv : V64 v) {p : Nat} (h : hitN l (name2 v) p = true) : ∃ a, l[p]? = some (v, a) ∧ lk l v = some a := by
  unfold hitN at h
  cases hx : l[p]? with
  | none => rw [hx] at h; cases h
  | some x =>
    rw [hx] at h
    have h1 : name2 x.1 = name2 v := of_decide_eq_true h
    have h2 : x.1 = v := name_inj (ha x (List.mem_of_getElem? hx)) hv h1
    obtain ⟨u, a⟩ := x
    simp only at h2
    subst h2
    exact ⟨a, rfl, lk_mem hs (List.mem_of_getElem? hx)⟩
theorem hit_none {l : List ((Nat × Nat) × α)} (hs : Sd l) {v : (Nat × Nat)} {p : Nat} (hc : Cut l (name2 v) p) (h : hitN l (name2 v) p = false) : lk l v = none := by
  refine lk_none fun x hx e => ?_
  obtain ⟨t, ht⟩ := List.getElem?_of_mem hx
  rcases Nat.lt_or_ge t p with h1 | h1
  · have := hc.2.1 t x h1 ht
    rw [e] at this
    exact Nat.lt_irrefl _ this
  · rcases Nat.lt_or_ge p t with h2 | h2
    · have hlt : t < l.length := by
        rcases Nat.lt_or_ge t l.length with h' | h'
        · exact h'
        · rw [List.getElem?_eq_none h'] at ht; cases ht
      have hp : l[p]? = some l[p] := List.getElem?_eq_getElem (by omega)
      have := sd_get hs hp ht h2
      have h3 := hc.2.2 p _ (Nat.le_refl _) hp
      rw [e] at this
      omega
    · have : t = p := by omega
      subst this
      unfold hitN at h
      rw [ht] at h
      have := of_decide_eq_false h
      exact this (by rw [e])
/-- put where another one of its view was, or between -/
def putP (l : List ((Nat × Nat) × α)) (x : (Nat × Nat) × α) : List ((Nat × Nat) × α) := putK (fun _ => x.2) x.1 l
theorem putK_eq {one : Option α → α} {v : (Nat × Nat)} : ∀ (l : List ((Nat × Nat) × α)), Sd l → A64 l → putK one v l = putK (fun _ => one (lk l v)) v l
  | [], _, _ => by unfold putK; rw [lk_nil]
  | x :: l, hs, ha => by
    have hp := List.pairwise_cons.1 hs
    unfold putK
    by_cases h : x.1 = v
    · rw [if_pos h, if_pos h, lk_cons, if_pos h]
    · rw [if_neg h, if_neg h]
      by_cases h2 : name2 v < name2 x.1
      · rw [if_pos h2, if_pos h2]
        have : lk (x :: l) v = none := lk_none fun y hy e => by
          rcases List.mem_cons.1 hy with h' | h'
          · rw [h'] at e; exact h e
          · have := hp.1 y h'; rw [e] at this; omega
        rw [this]
      · rw [if_neg h2, if_neg h2, putK_eq l hp.2 (fun y hy => ha y (List.mem_cons_of_mem _ hy)), lk_cons, if_neg h]
theorem putP_hit {l : List ((Nat × Nat) × α)} {x : (Nat × Nat) × α} : ∀ (p : Nat) {a : α}, Sd l → l[p]? = some (x.1, a) → putP l x = l.set p x := by
  unfold putP
  induction l with
  | nil => intro p a _ h; cases h
  | cons y l ih =>
    intro p a hs h
    have hp := List.pairwise_cons.1 hs
    unfold putK
    cases p with
    | zero =>
      simp only [List.getElem?_cons_zero, Option.some.injEq] at h
      rw [if_pos (by rw [h])]
      rfl
    | succ p =>
      simp only [List.getElem?_cons_succ] at h
      have h1 := hp.1 _ (List.mem_of_getElem? h)
      rw [if_neg (fun e => by rw [e] at h1; exact Nat.lt_irrefl _ h1), if_neg (fun h3 => by simp only at h1; omega), ih p hp.2 h, List.set_cons_succ]
theorem putP_miss {l : List ((Nat × Nat) × α)} {x : (Nat × Nat) × α} : ∀ (p : Nat), Cut l (name2 x.1) p → hitN l (name2 x.1) p = false → Sd l → putP l x = l.take p ++ x :: l.drop p := by
  unfold putP
  induction l with
  | nil => intro p hc _ _; have : p = 0 := by simpa using hc.1
           subst this; rfl
  | cons y l ih =>
    intro p hc hh hs
    have hp := List.pairwise_cons.1 hs
    unfold putK
    cases p with
    | zero =>
      have h1 := hc.2.2 0 y (Nat.le_refl _) rfl
      have h2 : name2 y.1 ≠ name2 x.1 := of_decide_eq_false hh
      rw [if_neg (fun e => h2 (by rw [e])), if_pos (by omega)]
      rfl
    | succ p =>
      have h1 := hc.2.1 0 y (by omega) rfl
      rw [if_neg (fun e => by rw [e] at h1; exact Nat.lt_irrefl _ h1), if_neg (by omega), ih p ⟨by have := hc.1; simp at this; omega, fun t z ht hz => hc.2.1 (t + 1) z (by omega) hz, fun t z ht hz => hc.2.2 (t + 1) z (by omega) hz⟩ hh hp.2]
      rfl
theorem putP_len (l : List ((Nat × Nat) × α)) (x : (Nat × Nat) × α) : (putP l x).length ≤ l.length + 1 := by
  unfold putP
  induction l with
  | nil => simp [putK]
  | cons y l ih =>
    unfold putK
    split
    · simp
    · split
      · simp
      · simp only [List.length_cons]; omega
theorem sd_putP {l : List ((Nat × Nat) × α)} {x : (Nat × Nat) × α} (hv : V64 x.1) (ha : A64 l) (hs : Sd l) : Sd (putP l x) ∧ A64 (putP l x) := ⟨sd_put hv ha hs, a64_put hv ha⟩
/-- lists of the same views: put in both -/
theorem putP_get {β : Type} {Q : (Nat × Nat) × α → (Nat × Nat) × β → Prop} {x : (Nat × Nat) × α} {y : (Nat × Nat) × β} (hxy : x.1 = y.1) (hq : Q x y) : ∀ (l : List ((Nat × Nat) × α)) (m : List ((Nat × Nat) × β)), l.length = m.length → (∀ (i : Nat) a b, l[i]? = some a → m[i]? = some b → a.1 = b.1 ∧ Q a b) →
    (putP l x).length = (putP m y).length ∧ ∀ (i : Nat) a b, (putP l x)[i]? = some a → (putP m y)[i]? = some b → a.1 = b.1 ∧ Q a b
  | [], [], _, _ => ⟨rfl, fun i a b ha hb => by
      cases i with
      | zero => cases ha; cases hb; exact ⟨hxy, hq⟩
      | succ i => cases ha⟩
  | [], _ :: _, hl, _ => by cases hl
  | _ :: _, [], hl, _ => by cases hl
  | u :: l, z :: m, hl, h => by
    have h0 := h 0 u z rfl rfl
    have ih := putP_get hxy hq l m (by simpa using hl) (fun i a b ha hb => h (i + 1) a b ha hb)
    obtain ⟨xv, xa⟩ := x
    obtain ⟨yv, ya⟩ := y
    simp only at hxy
    subst hxy
    unfold putP at ih ⊢
    unfold putK
    simp only at ih ⊢
    rw [← h0.1]
    by_cases h1 : u.1 = xv
    · rw [if_pos h1, if_pos h1]
      refine ⟨by simpa using hl, fun i a b ha hb => ?_⟩
      cases i with
      | zero => cases ha; cases hb; exact ⟨rfl, hq⟩
      | succ i => exact h (i + 1) a b ha hb
    · rw [if_neg h1, if_neg h1]
      by_cases h2 : name2 xv < name2 u.1
      · rw [if_pos h2, if_pos h2]
        refine ⟨by simpa using hl, fun i a b ha hb => ?_⟩
        cases i with
        | zero => cases ha; cases hb; exact ⟨rfl, hq⟩
        | succ i => exact h i a b ha hb
      · rw [if_neg h2, if_neg h2]
        refine ⟨by simp only [List.length_cons]; rw [ih.1], fun i a b ha hb => ?_⟩
        cases i with
        | zero => cases ha; cases hb; exact h0
        | succ i => exact ih.2 i a b ha hb
end
end Go.Proofs.YtfblnomkafimhaaGreat.Fo
namespace Go.Proofs.YtfblnomkafimhaaGreat.Fow
open Go.RowKit
open Cl Bk Lg Fo Clw Bkw
open Rg (bal)
section
variable {w : World} {g : Nat} {u1 u2 u3 u4 : Value}
theorem cells2 {T : TypeId} (h : w.heap[g]? = some (.cells #[u1, u2] T)) : w.cell? ⟨g, 0, none⟩ = some u1 ∧ w.cell? ⟨g, 1, none⟩ = some u2 := by
  refine ⟨?_, ?_⟩ <;> (rw [cell_of_row _ _ _ _ _ _ h]; rfl)
theorem cells3 {T : TypeId} (h : w.heap[g]? = some (.cells #[u1, u2, u3] T)) : w.cell? ⟨g, 0, none⟩ = some u1 ∧ w.cell? ⟨g, 1, none⟩ = some u2 ∧ w.cell? ⟨g, 2, none⟩ = some u3 := by
  refine ⟨?_, ?_, ?_⟩ <;> (rw [cell_of_row _ _ _ _ _ _ h]; rfl)
theorem cells4 {T : TypeId} (h : w.heap[g]? = some (.cells #[u1, u2, u3, u4] T)) : w.cell? ⟨g, 0, none⟩ = some u1 ∧ w.cell? ⟨g, 1, none⟩ = some u2 ∧ w.cell? ⟨g, 2, none⟩ = some u3 ∧ w.cell? ⟨g, 3, none⟩ = some u4 := by
  refine ⟨?_, ?_, ?_, ?_⟩ <;> (rw [cell_of_row _ _ _ _ _ _ h]; rfl)
end
end Go.Proofs.YtfblnomkafimhaaGreat.Fow

namespace Go.Proofs.YtfblnomkafimhaaGreat.Fow
set_option maxRecDepth 20000
open Go.RowKit
open Chg Vw Cl Bk Lg Fo Clw Bkw
open Chgw (hat hbe vw ret_bool ret_i64 Vx)
open Rg (bal)

/-- entries in slices -/
theorem infoEE : (Tryz.prog.info? 58).map (fun i => (i.zero, i.size, i.bytes)) = some (some (.agg #[.int .i64 0, .int .i64 0, .int .i64 0, .float .f64 0]), 4, 32) := by kernel_rfl
def KEE : Kind E := ⟨cellsE, 4, 58, 34, 32, .agg #[.int .i64 0, .int .i64 0, .int .i64 0, .float .f64 0], fun _ => rfl, fun x u hu => by
  simp only [cellsE, List.mem_cons, List.not_mem_nil, or_false] at hu
  rcases hu with rfl | rfl | rfl | rfl <;> rfl, by omega, by omega, infoEE, Tryz.underlying34, rfl⟩
theorem re_rsF {w : World} {B : Nat} {A : Option Addr} {es : List E} (h : Re w B A es) : Rg.Rs KEE w B A es := by
  intro hn
  obtain ⟨b, o, e, hb, hc⟩ := h hn
  refine ⟨b, o, e, hb, fun j x hx i u hu => ?_⟩
  exact (hc j x hx).cells i (Rg.lt_cells KEE hu) u hu
theorem ownE_G {w : World} {base : Nat} {A : Option Addr} {n c : Nat} {es : List E} (h : Rg.OwnG KEE w base A n c es) : OwnE w base A n c es := h
theorem ownG_E {w : World} {base : Nat} {A : Option Addr} {n c : Nat} {es : List E} (h : OwnE w base A n c es) : Rg.OwnG KEE w base A n c es := h
set_option maxHeartbeats 1000000 in
theorem clone_E (A : Option Addr) (n c : Nat) (es : List E) (B : Nat) (w : World) (hn : n = es.length) (hr : Rg.Rs KEE w B A es) (hB : B ≤ w.heap.size) (hbd : n * KEE.bytes ≤ 140737488355328) : Calls Tryz.prog 43 #[.slice A n c] w (Rg.RetOwnG KEE w w.heap.size es) := by
  have q22 : ∀ (w : World) (a : Option Addr) (n c n' c' : Nat), (binOp .eql 34 (.slice a n c) (.slice none n' c')).run Tryz.prog w = .ok (.bool a.isNone) w := fun w a n c n' c' => Lib.run_eql_slice_nil w _ _ a n c n' c' Tryz.underlying34
  cases A with
  | none =>
    have h0 : es = [] := by
      rcases Nat.eq_zero_or_pos es.length with h | h
      · exact List.eq_nil_of_length_eq_zero h
      · obtain ⟨_, _, e, _⟩ := hr h
        cases e
    subst h0
    have hn0 : n = 0 := by simpa using hn
    subst hn0
    clear hr hn hbd
    go_enter Tryz.func43, Tryz.ntmps43
    go_wp2
    go_ret
    exact ⟨none, 0, 0, rfl, ⟨rfl, World.ownsRow_nil _ _ _ _⟩, Below.refl _ _⟩
  | some ad =>
    have HN := Lib.hid hn; clear hn
    have HR := Lib.hid hr; clear hr
    have HD := Lib.hid hbd; clear hbd
    have HBB := Lib.hid hB; clear hB
    go_enter Tryz.func43, Tryz.ntmps43
    go_wp2_with (at_builtin; refine Rg.wp_copyG (K := KEE) rfl (.tmp 5) (.tmp 6) rfl w rfl B (some ad) n c es rfl HN.out HR.out HBB.out HD.out ?_; intro A2 c2 w2 ho2 hb2)
    go_ret
    exact ⟨A2, n, c2, rfl, ho2, hb2⟩
set_option maxHeartbeats 1000000 in
theorem clone_Ce (A : Option Addr) (n c : Nat) (es : List C) (B : Nat) (w : World) (hn : n = es.length) (hr : Rg.Rs KC w B A es) (hB : B ≤ w.heap.size) (hbd : n * KC.bytes ≤ 140737488355328) : Calls Tryz.prog 46 #[.slice A n c] w (Rg.RetOwnG KC w w.heap.size es) := by
  have q22 : ∀ (w : World) (a : Option Addr) (n c n' c' : Nat), (binOp .eql 36 (.slice a n c) (.slice none n' c')).run Tryz.prog w = .ok (.bool a.isNone) w := fun w a n c n' c' => Lib.run_eql_slice_nil w _ _ a n c n' c' Tryz.underlying36
  cases A with
  | none =>
    have h0 : es = [] := by
      rcases Nat.eq_zero_or_pos es.length with h | h
      · exact List.eq_nil_of_length_eq_zero h
      · obtain ⟨_, _, e, _⟩ := hr h
        cases e
    subst h0
    have hn0 : n = 0 := by simpa using hn
    subst hn0
    clear hr hn hbd
    go_enter Tryz.func46, Tryz.ntmps46
    go_wp2
    go_ret
    exact ⟨none, 0, 0, rfl, ⟨rfl, World.ownsRow_nil _ _ _ _⟩, Below.refl _ _⟩
  | some ad =>
    have HN := Lib.hid hn; clear hn
    have HR := Lib.hid hr; clear hr
    have HD := Lib.hid hbd; clear hbd
    have HBB := Lib.hid hB; clear hB
    go_enter Tryz.func46, Tryz.ntmps46
    go_wp2_with (at_builtin; refine Rg.wp_copyG (K := KC) rfl (.tmp 5) (.tmp 6) rfl w rfl B (some ad) n c es rfl HN.out HR.out HBB.out HD.out ?_; intro A2 c2 w2 ho2 hb2)
    go_ret
    exact ⟨A2, n, c2, rfl, ho2, hb2⟩
set_option maxHeartbeats 1000000 in
theorem clone_B (A : Option Addr) (n c : Nat) (es : List ((Nat × Nat) × Sl)) (B : Nat) (w : World) (hn : n = es.length) (hr : Rg.Rs KB w B A es) (hB : B ≤ w.heap.size) (hbd : n * KB.bytes ≤ 140737488355328) : Calls Tryz.prog 73 #[.slice A n c] w (Rg.RetOwnG KB w w.heap.size es) := by
  have q22 : ∀ (w : World) (a : Option Addr) (n c n' c' : Nat), (binOp .eql 22 (.slice a n c) (.slice none n' c')).run Tryz.prog w = .ok (.bool a.isNone) w := fun w a n c n' c' => Lib.run_eql_slice_nil w _ _ a n c n' c' Tryz.underlying22
  cases A with
  | none =>
    have h0 : es = [] := by
      rcases Nat.eq_zero_or_pos es.length with h | h
      · exact List.eq_nil_of_length_eq_zero h
      · obtain ⟨_, _, e, _⟩ := hr h
        cases e
    subst h0
    have hn0 : n = 0 := by simpa using hn
    subst hn0
    clear hr hn hbd
    go_enter Tryz.func73, Tryz.ntmps73
    go_wp2
    go_ret
    exact ⟨none, 0, 0, rfl, ⟨rfl, World.ownsRow_nil _ _ _ _⟩, Below.refl _ _⟩
  | some ad =>
    have HN := Lib.hid hn; clear hn
    have HR := Lib.hid hr; clear hr
    have HD := Lib.hid hbd; clear hbd
    have HBB := Lib.hid hB; clear hB
    go_enter Tryz.func73, Tryz.ntmps73
    go_wp2_with (at_builtin; refine Rg.wp_copyG (K := KB) rfl (.tmp 5) (.tmp 6) rfl w rfl B (some ad) n c es rfl HN.out HR.out HBB.out HD.out ?_; intro A2 c2 w2 ho2 hb2)
    go_ret
    exact ⟨A2, n, c2, rfl, ho2, hb2⟩
set_option maxHeartbeats 1000000 in
theorem clone_C (A : Option Addr) (n c : Nat) (es : List ((Nat × Nat) × Sl)) (B : Nat) (w : World) (hn : n = es.length) (hr : Rg.Rs KCs w B A es) (hB : B ≤ w.heap.size) (hbd : n * KCs.bytes ≤ 140737488355328) : Calls Tryz.prog 74 #[.slice A n c] w (Rg.RetOwnG KCs w w.heap.size es) := by
  have q22 : ∀ (w : World) (a : Option Addr) (n c n' c' : Nat), (binOp .eql 23 (.slice a n c) (.slice none n' c')).run Tryz.prog w = .ok (.bool a.isNone) w := fun w a n c n' c' => Lib.run_eql_slice_nil w _ _ a n c n' c' Tryz.underlying23
  cases A with
  | none =>
    have h0 : es = [] := by
      rcases Nat.eq_zero_or_pos es.length with h | h
      · exact List.eq_nil_of_length_eq_zero h
      · obtain ⟨_, _, e, _⟩ := hr h
        cases e
    subst h0
    have hn0 : n = 0 := by simpa using hn
    subst hn0
    clear hr hn hbd
    go_enter Tryz.func74, Tryz.ntmps74
    go_wp2
    go_ret
    exact ⟨none, 0, 0, rfl, ⟨rfl, World.ownsRow_nil _ _ _ _⟩, Below.refl _ _⟩
  | some ad =>
    have HN := Lib.hid hn; clear hn
    have HR := Lib.hid hr; clear hr
    have HD := Lib.hid hbd; clear hbd
    have HBB := Lib.hid hB; clear hB
    go_enter Tryz.func74, Tryz.ntmps74
    go_wp2_with (at_builtin; refine Rg.wp_copyG (K := KCs) rfl (.tmp 5) (.tmp 6) rfl w rfl B (some ad) n c es rfl HN.out HR.out HBB.out HD.out ?_; intro A2 c2 w2 ho2 hb2)
    go_ret
    exact ⟨A2, n, c2, rfl, ho2, hb2⟩
set_option maxHeartbeats 1000000 in
theorem clone_I (A : Option Addr) (n c : Nat) (es : List ((Nat × Nat) × (Nat × Nat))) (B : Nat) (w : World) (hn : n = es.length) (hr : Rg.Rs KI w B A es) (hB : B ≤ w.heap.size) (hbd : n * KI.bytes ≤ 140737488355328) : Calls Tryz.prog 75 #[.slice A n c] w (Rg.RetOwnG KI w w.heap.size es) := by
  have q22 : ∀ (w : World) (a : Option Addr) (n c n' c' : Nat), (binOp .eql 24 (.slice a n c) (.slice none n' c')).run Tryz.prog w = .ok (.bool a.isNone) w := fun w a n c n' c' => Lib.run_eql_slice_nil w _ _ a n c n' c' Tryz.underlying24
  cases A with
  | none =>
    have h0 : es = [] := by
      rcases Nat.eq_zero_or_pos es.length with h | h
      · exact List.eq_nil_of_length_eq_zero h
      · obtain ⟨_, _, e, _⟩ := hr h
        cases e
    subst h0
    have hn0 : n = 0 := by simpa using hn
    subst hn0
    clear hr hn hbd
    go_enter Tryz.func75, Tryz.ntmps75
    go_wp2
    go_ret
    exact ⟨none, 0, 0, rfl, ⟨rfl, World.ownsRow_nil _ _ _ _⟩, Below.refl _ _⟩
  | some ad =>
    have HN := Lib.hid hn; clear hn
    have HR := Lib.hid hr; clear hr
    have HD := Lib.hid hbd; clear hbd
    have HBB := Lib.hid hB; clear hB
    go_enter Tryz.func75, Tryz.ntmps75
    go_wp2_with (at_builtin; refine Rg.wp_copyG (K := KI) rfl (.tmp 5) (.tmp 6) rfl w rfl B (some ad) n c es rfl HN.out HR.out HBB.out HD.out ?_; intro A2 c2 w2 ho2 hb2)
    go_ret
    exact ⟨A2, n, c2, rfl, ho2, hb2⟩
end Go.Proofs.YtfblnomkafimhaaGreat.Fow

namespace Go.Proofs.YtfblnomkafimhaaGreat.Fo
set_option maxRecDepth 20000
open Chg Vw Cl Bk Lg
section
variable {α β : Type}
theorem lk_two {Q : α → β → Prop} (v : Nat × Nat) : ∀ (l : List ((Nat × Nat) × α)) (m : List ((Nat × Nat) × β)), l.length = m.length → (∀ (i : Nat) a b, l[i]? = some a → m[i]? = some b → a.1 = b.1 ∧ Q a.2 b.2) → (lk l v = none ∧ lk m v = none) ∨ ∃ a b, lk l v = some a ∧ lk m v = some b ∧ Q a b
  | [], [], _, _ => Or.inl ⟨rfl, rfl⟩
  | [], _ :: _, hl, _ => by cases hl
  | _ :: _, [], hl, _ => by cases hl
  | u :: l, z :: m, hl, h => by
    have h0 := h 0 u z rfl rfl
    have ih := lk_two v l m (by simpa using hl) (fun i a b ha hb => h (i + 1) a b ha hb)
    rw [lk_cons, lk_cons, ← h0.1]
    by_cases e : u.1 = v
    · rw [if_pos e, if_pos e]; exact Or.inr ⟨_, _, rfl, rfl, h0.2⟩
    · rw [if_neg e, if_neg e]; exact ih
theorem keys_two : ∀ (l : List ((Nat × Nat) × α)) (m : List ((Nat × Nat) × β)), l.length = m.length → (∀ (i : Nat) a b, l[i]? = some a → m[i]? = some b → a.1 = b.1) → l.map (·.1) = m.map (·.1)
  | [], [], _, _ => rfl
  | [], _ :: _, hl, _ => by cases hl
  | _ :: _, [], hl, _ => by cases hl
  | u :: l, z :: m, hl, h => by rw [List.map_cons, List.map_cons, h 0 u z rfl rfl, keys_two l m (by simpa using hl) (fun i a b ha hb => h (i + 1) a b ha hb)]
theorem sd_keys (l : List ((Nat × Nat) × α)) : Sd l ↔ (l.map (·.1)).Pairwise fun u v => name2 u < name2 v := by unfold Sd; rw [List.pairwise_map]
theorem sd_two {l : List ((Nat × Nat) × α)} {m : List ((Nat × Nat) × β)} (hl : l.length = m.length) (h : ∀ (i : Nat) a b, l[i]? = some a → m[i]? = some b → a.1 = b.1) (hs : Sd m) (ha : A64 m) : Sd l ∧ A64 l := by
  have hk := keys_two l m hl h
  refine ⟨(sd_keys l).2 (by rw [hk]; exact (sd_keys m).1 hs), fun x hx => ?_⟩
  have : x.1 ∈ m.map (·.1) := by rw [← hk]; exact List.mem_map.2 ⟨x, hx, rfl⟩
  obtain ⟨y, hy, e⟩ := List.mem_map.1 this
  rw [← e]
  exact ha y hy
theorem sd_lenF : ∀ (l : List ((Nat × Nat) × α)) (k : Nat), k ≤ 4096 → Sd l → (∀ x ∈ l, k ≤ name2 x.1 ∧ name2 x.1 < 4096) → l.length + k ≤ 4096
  | [], k, hk, _, _ => by simpa using hk
  | x :: l, k, _, hs, h => by
    have hp := List.pairwise_cons.1 hs
    have h0 := h x (by simp)
    have := sd_lenF l (name2 x.1 + 1) (by omega) hp.2 (fun y hy => ⟨hp.1 y hy, (h y (List.mem_cons_of_mem _ hy)).2⟩)
    rw [List.length_cons]
    omega
theorem sd_len {l : List ((Nat × Nat) × α)} (hs : Sd l) (ha : A64 l) : l.length ≤ 4096 := by
  have := sd_lenF l 0 (by omega) hs (fun x hx => ⟨by omega, name_lt (ha x hx)⟩)
  omega
end
end Go.Proofs.YtfblnomkafimhaaGreat.Fo
namespace Go.Proofs.YtfblnomkafimhaaGreat.Fow
open Go.RowKit
open Chg Vw Cl Bk Lg Fo Clw Bkw
open Chgw (hat hbe vw ret_bool ret_i64 Vx)
open Rg (bal)
theorem Ors.stoW {W : World} {base : Nat} {s : St} {b c i : Sl} {xs ys : List ((Nat × Nat) × Sl)} (h : Ors W base s b c i xs ys) (hw : WfS s) : Sto W s b c i := h.sto hw (sd_len hw.sb hw.ab) (sd_len hw.sc hw.ac) (sd_len hw.si hw.ai)
theorem Ors.base {W : World} {base base' : Nat} {s : St} {b c i : Sl} {xs ys : List ((Nat × Nat) × Sl)} (h : Ors W base s b c i xs ys) (hb : base' ≤ base) : Ors W base' s b c i xs ys :=
  ⟨⟨h.1.1.base hb, h.1.2.1, fun i x y hx hy => ⟨(h.1.2.2 i x y hx hy).1, (h.1.2.2 i x y hx hy).2.base hb⟩⟩, ⟨h.2.1.1.base hb, h.2.1.2.1, fun i x y hx hy => ⟨(h.2.1.2.2 i x y hx hy).1, (h.2.1.2.2 i x y hx hy).2.base hb⟩⟩, h.2.2.base hb⟩
theorem Ors.below {W W' : World} {base : Nat} {s : St} {b c i : Sl} {xs ys : List ((Nat × Nat) × Sl)} (h : Ors W base s b c i xs ys) (hb : Below W.heap.size W W') : Ors W' base s b c i xs ys :=
  ⟨⟨h.1.1.below hb (Nat.le_refl _), h.1.2.map (fun _ _ _ _ h1 => h1.below hb (Nat.le_refl _))⟩, ⟨h.2.1.1.below hb (Nat.le_refl _), h.2.1.2.map (fun _ _ _ _ h1 => h1.below hb (Nat.le_refl _))⟩, h.2.2.below hb (Nat.le_refl _)⟩
/-- what a look-up finds of a state in memory -/
theorem lookB {w : World} {s : St} {b : Sl} (h : Sbk w b s.books) (hw : WfS s) (v : Nat × Nat) : ∃ xs, b.n = xs.length ∧ b.n ≤ 4096 ∧ Sd xs ∧ A64 xs ∧ Rg.Rs KB w w.heap.size b.a xs ∧ So w ((lk xs v).getD nilS).a ((lk xs v).getD nilS).n ((lk xs v).getD nilS).c (bookS s v) := by
  obtain ⟨xs, h1, _, _, h4, h5⟩ := h
  have hk := sd_two h5.1 (fun i a b ha hb => (h5.2 i a b ha hb).1) hw.sb hw.ab
  refine ⟨xs, by rw [h1, h5.1], by rw [h1]; exact sd_len hw.sb hw.ab, hk.1, hk.2, h4, ?_⟩
  unfold bookS
  rcases lk_two (Q := fun sl bk => So w sl.a sl.n sl.c bk) v xs s.books h5.1 (fun i a b ha hb => h5.2 i a b ha hb) with ⟨e1, e2⟩ | ⟨a, bk, e1, e2, hq⟩
  · rw [e1, e2]; exact So.nil w
  · rw [e1, e2]; exact hq
theorem lookC {w : World} {s : St} {b : Sl} (h : Scs w b s.cells) (hw : WfS s) (v : Nat × Nat) : ∃ xs, b.n = xs.length ∧ b.n ≤ 4096 ∧ Sd xs ∧ A64 xs ∧ Rg.Rs KCs w w.heap.size b.a xs ∧ Sc w ((lk xs v).getD nilS).a ((lk xs v).getD nilS).n ((lk xs v).getD nilS).c (cellsS s v) := by
  obtain ⟨xs, h1, _, _, h4, h5⟩ := h
  have hk := sd_two h5.1 (fun i a b ha hb => (h5.2 i a b ha hb).1) hw.sc hw.ac
  refine ⟨xs, by rw [h1, h5.1], by rw [h1]; exact sd_len hw.sc hw.ac, hk.1, hk.2, h4, ?_⟩
  unfold cellsS
  rcases lk_two (Q := fun sl bk => Sc w sl.a sl.n sl.c bk) v xs s.cells h5.1 (fun i a b ha hb => h5.2 i a b ha hb) with ⟨e1, e2⟩ | ⟨a, bk, e1, e2, hq⟩
  · rw [e1, e2]; exact Sc.nil w
  · rw [e1, e2]; exact hq
/-- a state's cells, as an object -/
def sobj (s : St) (b c i : Sl) : Obj := .cells #[.slice b.a b.n b.c, .slice c.a c.n c.c, .slice i.a i.n i.c, .int .i64 (s.held.1 : Int), .int .i64 (s.held.2 : Int), .int .i64 s.inc, .int .i64 s.last] 28
end Go.Proofs.YtfblnomkafimhaaGreat.Fow
