/- Contracts and words on which the claims of this seat stand, part 7: LgI RowG LgW LgR LgS. -/
import Derived.Test.YtfblnomkafimhaaGreatG01
import Derived.Test.YtfblnomkafimhaaGreatG02
import Derived.Test.YtfblnomkafimhaaGreatG03
import Derived.Test.YtfblnomkafimhaaGreatG04
import Derived.Test.YtfblnomkafimhaaGreatG05
import Derived.Test.YtfblnomkafimhaaGreatG06
import Derived.Laws.StructEq
set_option linter.unusedSimpArgs false
set_option linter.unusedVariables false
namespace Go.Proofs.YtfblnomkafimhaaGreat.Lgw
set_option maxRecDepth 20000
end Go.Proofs.YtfblnomkafimhaaGreat.Lgw

namespace Go.Proofs.YtfblnomkafimhaaGreat
set_option maxRecDepth 20000
open Go.RowKit

/-- a kind of elements: their cells, their type, the type of their slices -/
structure Kind (α : Type) where
  cells : α → List Value
  k : Nat
  T : TypeId
  S : TypeId
  bytes : Nat
  zero : Value
  len : ∀ x, (cells x).length = k
  one : ∀ x, ∀ u ∈ cells x, u.oneCell' = true
  kpos : 0 < k
  bpos : 0 < bytes
  info : (Tryz.prog.info? T).map (fun i => (i.zero, i.size, i.bytes)) = some (some zero, k, bytes)
  und : Tryz.prog.underlying S = some (.slice T)
  zs : zero.cells.size = k
namespace Rg
variable {α : Type} (K : Kind α)

theorem bal {B : Nat} {w0 w : World} (h : Below B w0 w) (hB : B ≤ w0.heap.size) (o : Obj) : Below B w0 (w.alloc o) := h.alloc (Nat.le_trans hB h.size) o
theorem add_at (b o j : Nat) : (⟨b, o, none⟩ : Addr).add j = ⟨b, o + j, none⟩ := by unfold Addr.add; split <;> simp_all
/-- the cells of the element at an address -/
def At (w : World) (b o : Nat) (x : α) : Prop := ∀ i u, (K.cells x)[i]? = some u → w.cell? ⟨b, o + i, none⟩ = some u
variable {K}
theorem At.below {w w' : World} {b o B : Nat} {x : α} (h : At K w b o x) (hb : Below B w w') (hB : b < B) : At K w' b o x :=
  fun i u hu => (hb.cell (p := ⟨b, o + i, none⟩) hB).trans (h i u hu)
variable (K)
/-- the slice A holds these elements, below block B -/
def Rs (w : World) (B : Nat) (A : Option Addr) (xs : List α) : Prop :=
  0 < xs.length → ∃ b o, A = some ⟨b, o, none⟩ ∧ b < B ∧ ∀ (j : Nat) (x : α), xs[j]? = some x → At K w b (o + j * K.k) x
variable {K}
theorem Rs.nil {w : World} {B : Nat} {A : Option Addr} : Rs K w B A [] := fun h => absurd h (by simp)
theorem Rs.below {w w' : World} {B : Nat} {A : Option Addr} {xs : List α} (h : Rs K w B A xs) (hb : Below B w w') : Rs K w' B A xs := by
  intro hn
  obtain ⟨b, o, e, hB, hc⟩ := h hn
  exact ⟨b, o, e, hB, fun j v hv => (hc j v hv).below hb hB⟩
theorem Rs.more {w : World} {B B' : Nat} {A : Option Addr} {xs : List α} (h : Rs K w B A xs) (hB : B ≤ B') : Rs K w B' A xs := by
  intro hn
  obtain ⟨b, o, e, hb, hc⟩ := h hn
  exact ⟨b, o, e, by omega, hc⟩
theorem Rs.take {w : World} {B : Nat} {A : Option Addr} {xs : List α} (h : Rs K w B A xs) (k : Nat) : Rs K w B A (xs.take k) := by
  intro hn
  obtain ⟨b, o, e, hb, hc⟩ := h (by simp at hn; omega)
  refine ⟨b, o, e, hb, fun j u hu => hc j u ?_⟩
  rw [List.getElem?_take] at hu
  split at hu
  · exact hu
  · cases hu
variable (K)
def flat (xs : List α) : List Value := xs.flatMap K.cells
theorem flat_len (xs : List α) : (flat K xs).length = xs.length * K.k := by
  induction xs with
  | nil => simp [flat]
  | cons x l ih =>
    have e : flat K (x :: l) = K.cells x ++ flat K l := rfl
    rw [e, List.length_append, K.len, ih, List.length_cons, Nat.add_mul]
    omega
theorem flat_one (xs : List α) : ∀ u ∈ flat K xs, u.oneCell' = true := by
  intro u hu
  obtain ⟨v, _, hv⟩ := List.mem_flatMap.1 hu
  exact K.one v u hv
theorem flat_at : ∀ (xs : List α) (j : Nat) (x : α), xs[j]? = some x → ∀ i, i < K.k → (flat K xs)[j * K.k + i]? = (K.cells x)[i]?
  | [], _, _, h, _, _ => by simp at h
  | x :: l, 0, v, h, i, hi => by
    simp only [List.getElem?_cons_zero, Option.some.injEq] at h
    subst h
    have e : flat K (x :: l) = K.cells x ++ flat K l := rfl
    rw [e, Nat.zero_mul, Nat.zero_add, List.getElem?_append_left (by rw [K.len]; exact hi)]
  | x :: l, j + 1, v, h, i, hi => by
    have ih := flat_at l j v (by simpa using h) i hi
    have e : flat K (x :: l) = K.cells x ++ flat K l := rfl
    have e2 : (j + 1) * K.k + i = K.k + (j * K.k + i) := by rw [Nat.add_mul]; omega
    rw [e, e2, List.getElem?_append_right (by rw [K.len]; omega), K.len, Nat.add_sub_cancel_left]
    exact ih
theorem flat_get (xs : List α) (j : Nat) (u : Value) (h : (flat K xs)[j]? = some u) : ∃ (k i : Nat) (x : α), xs[k]? = some x ∧ i < K.k ∧ j = k * K.k + i ∧ (K.cells x)[i]? = some u := by
  have hj : j < xs.length * K.k := by
    rw [← flat_len]
    rcases Nat.lt_or_ge j (flat K xs).length with h' | h'
    · exact h'
    · rw [List.getElem?_eq_none h'] at h; cases h
  have hi : j / K.k < xs.length := (Nat.div_lt_iff_lt_mul K.kpos).2 hj
  have hm : j % K.k < K.k := Nat.mod_lt _ K.kpos
  have hd : j / K.k * K.k + j % K.k = j := by rw [Nat.mul_comm]; exact Nat.div_add_mod j K.k
  have hv : xs[j / K.k]? = some xs[j / K.k] := List.getElem?_eq_getElem hi
  have hf := flat_at K xs (j / K.k) _ hv (j % K.k) hm
  rw [hd, h] at hf
  exact ⟨j / K.k, j % K.k, _, hv, hm, hd.symm, hf.symm⟩
theorem lt_cells {x : α} {i : Nat} {u : Value} (h : (K.cells x)[i]? = some u) : i < K.k := by
  rcases Nat.lt_or_ge i K.k with h' | h'
  · exact h'
  · rw [List.getElem?_eq_none (by rw [K.len]; exact h')] at h; cases h
theorem one_cells (w : World) (xs : List α) (j : Nat) (x : α) (he : xs[j]? = some x) : At K (w.alloc (.cells (flat K xs).toArray K.T)) w.heap.size (0 + j * K.k) x := by
  intro i u hu
  have h := flat_at K xs j x he i (lt_cells K hu)
  rw [cell_of_row _ _ _ _ _ _ (heap_alloc_new w _), Nat.zero_add]
  rw [hu] at h
  simpa using h
theorem rs_new (w : World) (xs : List α) : Rs K (w.alloc (.cells (flat K xs).toArray K.T)) (w.heap.size + 1) (some ⟨w.heap.size, 0, none⟩) xs :=
  fun _ => ⟨_, _, rfl, by omega, fun j v hv => one_cells K w xs j v hv⟩
/-- the slice A holds the elements xs, in a row of the call's own from block base on -/
def OwnG (w : World) (base : Nat) (A : Option Addr) (n c : Nat) (xs : List α) : Prop := n = xs.length ∧ w.ownsRow base K.T K.k (.slice A n c) n (flat K xs)
/-- it returns a slice of its own with these elements; below base nothing has turned -/
def RetOwnG (w : World) (base : Nat) (xs : List α) (e : Ending) (w' : World) : Prop := ∃ A n c, e = .returned (.slice A n c) ∧ OwnG K w' base A n c xs ∧ Below base w w'
variable {K}
theorem OwnG.rs {w : World} {base : Nat} {A : Option Addr} {n c : Nat} {xs : List α} (h : OwnG K w base A n c xs) : Rs K w w.heap.size A xs := by
  intro hp
  rcases h.2.2 with ⟨_, h0⟩ | ⟨g, cap, cur, e, _, hh, _⟩
  · exfalso
    rw [← h.1] at hp
    omega
  · injection e with e1 e2 e3
    subst e1
    refine ⟨g, 0, rfl, (h.2.lt g rfl).2, fun j v hv i u hu => ?_⟩
    have hf := flat_at K xs j v hv i (lt_cells K hu)
    rw [hu] at hf
    have h1 := h.2.cells (g := g) rfl _ _ hf
    rw [add_at] at h1
    rw [← h1]
    congr 2
    omega
theorem OwnG.below {w w' : World} {base B : Nat} {A : Option Addr} {n c : Nat} {xs : List α} (h : OwnG K w base A n c xs) (hb : Below B w w') (hB : w.heap.size ≤ B) : OwnG K w' base A n c xs := by
  refine ⟨h.1, h.2.1, ?_⟩
  rcases h.2.2 with h0 | ⟨g, cap, cur, hv, hg, hh, r⟩
  · exact .inl h0
  · refine .inr ⟨g, cap, cur, hv, hg, ?_, r⟩
    injection hv with e1 e2 e3
    subst e1
    rw [hb.block g (Nat.lt_of_lt_of_le (h.2.lt g rfl).2 hB)]
    exact hh
theorem OwnG.alloc {w : World} {base : Nat} {A : Option Addr} {n c : Nat} {xs : List α} (h : OwnG K w base A n c xs) (o : Obj) : OwnG K (w.alloc o) base A n c xs := ⟨h.1, h.2.alloc o⟩
theorem OwnG.base {w : World} {base base' : Nat} {A : Option Addr} {n c : Nat} {xs : List α} (h : OwnG K w base A n c xs) (hB : base' ≤ base) : OwnG K w base' A n c xs := by
  refine ⟨h.1, h.2.1, ?_⟩
  rcases h.2.2 with h0 | ⟨g, cap, cur, hv, hg, r⟩
  · exact .inl h0
  · exact .inr ⟨g, cap, cur, hv, Nat.le_trans hB hg, r⟩
theorem OwnG.cap {w : World} {base : Nat} {A : Option Addr} {n c : Nat} {xs : List α} (h : OwnG K w base A n c xs) : n ≤ c := by
  rcases h.2.2 with ⟨_, h0⟩ | ⟨g, cap, cur, e, _, _, hcp, _⟩
  · omega
  · injection e with e1 e2 e3
    omega
/-- a row of one's own stays if its block does -/
theorem OwnG.keep {w w' : World} {base : Nat} {A : Option Addr} {n c : Nat} {xs : List α} (h : OwnG K w base A n c xs) (hk : ∀ k, (Value.slice A n c).ownBlock = some k → w'.heap[k]? = w.heap[k]?) : OwnG K w' base A n c xs := by
  refine ⟨h.1, h.2.1, ?_⟩
  rcases h.2.2 with h0 | ⟨g, cap, cur, hv, hg, hh, r⟩
  · exact .inl h0
  · refine .inr ⟨g, cap, cur, hv, hg, ?_, r⟩
    rw [← hh]
    exact hk g (by rw [hv]; rfl)
variable (K)
theorem own_newG (w : World) (base g : Nat) (hg : g = w.heap.size) (hb : base ≤ w.heap.size) : OwnG K (w.alloc (.cells #[] K.T)) base (some ⟨g, 0, none⟩) 0 0 [] := by
  subst hg
  exact ⟨rfl, by simp [flat], .inr ⟨w.heap.size, 0, #[], rfl, hb, heap_alloc_new w _, Nat.le_refl _, by simp, by simp, by simp [flat]⟩⟩
theorem own_noneG (w : World) (base : Nat) : OwnG K w base none 0 0 [] := ⟨rfl, by simp [flat], .inl ⟨rfl, rfl⟩⟩
variable {K}
theorem run_appG_any (ty : TypeId) (w : World) (base : Nat) (A0 : Option Addr) (n0 c0 : Nat) (xs0 : List α) (hown : OwnG K w base A0 n0 c0 xs0) (ad : Addr) (m c : Nat) (xs : List α) (hm : m = xs.length)
    (hc : ∀ j u, (flat K xs)[j]? = some u → w.cell? (ad.add j) = some u) (hb : (n0 + m) * K.bytes ≤ 140737488355328) (hbase : base ≤ w.heap.size) :
    ∃ A' c' w', (Builtin.append_ #[K.S, K.S] ty #[.slice A0 n0 c0, .slice (some ad) m c]).run Tryz.prog w = .ok (.slice A' (n0 + m) c') w' ∧ OwnG K w' base A' (n0 + m) c' (xs0 ++ xs) ∧ Below base w w' := by
  obtain ⟨i0, hi, hz0, hz1, hz2⟩ := info_parts K.info
  have hbig : n0 + m ≤ 140737488355328 := Nat.le_trans (Nat.le_mul_of_pos_right _ K.bpos) hb
  obtain ⟨v', w', hrun, ho, hg, _⟩ := run_append_own (P := Tryz.prog) _ base K.S ty K.T i0 _ K.k K.bytes K.und hi hz0 hz1 hz2 K.zs K.kpos _ n0 (flat K xs0) hown.2 ad m c (flat K xs) (by rw [flat_len, hm])
    hc (flat_one K xs) (by unfold maxLen; omega) hb hbase
  have hbl : Below base w w' := (Below.refl _ _).grown hg hbase (fun k hk => (hown.2.lt k hk).1)
  have hfl : flat K xs0 ++ flat K xs = flat K (xs0 ++ xs) := by unfold flat; rw [List.flatMap_append]
  rw [hfl] at ho
  have hlen : n0 + m = (xs0 ++ xs).length := by rw [List.length_append, hown.1, hm]
  rcases ho.2 with ⟨rfl, h0⟩ | ⟨g, cap, cur, rfl, _⟩
  · rw [h0] at ho hlen ⊢
    exact ⟨none, 0, w', hrun, ⟨hlen, ho⟩, hbl⟩
  · exact ⟨_, _, w', hrun, ⟨hlen, ho⟩, hbl⟩
/-- append onto a row of the call's own: the source nil, empty or not -/
theorem run_appG (ty : TypeId) (w : World) (base : Nat) (A0 : Option Addr) (n0 c0 : Nat) (xs0 : List α) (hown : OwnG K w base A0 n0 c0 xs0) (B : Nat) (A : Option Addr) (m c : Nat) (xs : List α) (hm : m = xs.length)
    (hr : Rs K w B A xs) (hb : (n0 + m) * K.bytes ≤ 140737488355328) (hbase : base ≤ w.heap.size) :
    ∃ A' c' w', (Builtin.append_ #[K.S, K.S] ty #[.slice A0 n0 c0, .slice A m c]).run Tryz.prog w = .ok (.slice A' (n0 + m) c') w' ∧ OwnG K w' base A' (n0 + m) c' (xs0 ++ xs) ∧ Below base w w' := by
  rcases Nat.eq_zero_or_pos xs.length with h0 | h0
  · have hn : xs = [] := List.eq_nil_of_length_eq_zero h0
    subst hn
    have hm0 : m = 0 := by simpa using hm
    subst hm0
    cases A with
    | none =>
      obtain ⟨i0, hi, hz0, hz1, hz2⟩ := info_parts K.info
      refine ⟨A0, c0, w, ?_, by simpa using hown, Below.refl _ _⟩
      rcases hown.2.2 with ⟨hv, hnn⟩ | ⟨g, cap, cur, hv, _, _, hnc, _⟩
      · injection hv with h1 h2 h3
        subst h1
        subst h3
        subst hnn
        simp [Builtin.append_, run_underlying K.und, sizeOf, typeInfo, hi, Builtin.lenOf, Builtin.firstCells]
      · injection hv with h1 h2 h3
        subst h1
        subst h3
        simp [Builtin.append_, run_underlying K.und, sizeOf, typeInfo, hi, Builtin.lenOf, Builtin.firstCells, hnc, storeCells]
    | some ad => exact run_appG_any ty w base A0 n0 c0 xs0 hown ad 0 c [] rfl (fun j u hu => by simp [flat] at hu) hb hbase
  · obtain ⟨b, o, rfl, _, hc⟩ := hr h0
    exact run_appG_any ty w base A0 n0 c0 xs0 hown ⟨b, o, none⟩ m c xs hm (fun j u hu => by
      rw [add_at]
      obtain ⟨k, i, v, hv, hi, rfl, h⟩ := flat_get K xs j u hu
      rw [← Nat.add_assoc]
      exact hc k v hv i u h) hb hbase
theorem op_appG {w : World} {o : Oper} {a : Act} {Kn : Act → World → Prop} {Q : Exit → Act → World → Prop} (s x : Operand)
    (ho : o.op = .call { callee := .builtin .append, args := #[s, x], argTypes := #[K.S, K.S] })
    (base : Nat) (A0 : Option Addr) (n0 c0 : Nat) (xs0 : List α) (hs : a.eval s = .slice A0 n0 c0) (hown : OwnG K w base A0 n0 c0 xs0)
    (B : Nat) (A : Option Addr) (m c : Nat) (xs : List α) (hx : a.eval x = .slice A m c) (hm : m = xs.length)
    (hr : Rs K w B A xs) (hb : (n0 + m) * K.bytes ≤ 140737488355328) (hbase : base ≤ w.heap.size)
    (h : ∀ A' c' w', OwnG K w' base A' (n0 + m) c' (xs0 ++ xs) → Below base w w' → Kn (a.put o.dst (.slice A' (n0 + m) c')) w') : o.wp Tryz.prog a w Kn Q := by
  obtain ⟨A', c', w', hrun, h2, h3⟩ := run_appG o.type w base A0 n0 c0 xs0 hown B A m c xs hm hr hb hbase
  unfold Oper.wp execOp
  simp only [ho, resolve, invoke, builtin, Sem.run_bind, Sem.run_pure, Result.andThen_ok, List.map_toArray, List.map_cons, List.map_nil, hs, hx, hrun]
  exact h A' c' w' h2 h3
theorem wp_appG {w : World} {ops : Array Oper} {rest : List Oper} {o : Oper} {a : Act} {Q : Exit → Act → World → Prop} (hgd : o.guard = none) (s x : Operand)
    (ho : o.op = .call { callee := .builtin .append, args := #[s, x], argTypes := #[K.S, K.S] })
    (base : Nat) (A0 : Option Addr) (n0 c0 : Nat) (xs0 : List α) (hs : a.eval s = .slice A0 n0 c0) (hown : OwnG K w base A0 n0 c0 xs0)
    (B : Nat) (A : Option Addr) (m c : Nat) (xs : List α) (hx : a.eval x = .slice A m c) (hm : m = xs.length)
    (hr : Rs K w B A xs) (hb : (n0 + m) * K.bytes ≤ 140737488355328) (hbase : base ≤ w.heap.size)
    (h : ∀ A' c' w', OwnG K w' base A' (n0 + m) c' (xs0 ++ xs) → Below base w w' → wpList Tryz.prog ops Q rest (a.put o.dst (.slice A' (n0 + m) c')) w') : wpList Tryz.prog ops Q (o :: rest) a w :=
  wpList_plain hgd fun _ hK => op_appG s x ho base A0 n0 c0 xs0 hs hown B A m c xs hx hm hr hb hbase fun A' c' w' h1 h2 => hK _ _ (h A' c' w' h1 h2)
/-- append([]T{}, x...): a copy -/
theorem op_copyG {o : Oper} {a : Act} {Kn : Act → World → Prop} {Q : Exit → Act → World → Prop} (s x : Operand)
    (ho : o.op = .call { callee := .builtin .append, args := #[s, x], argTypes := #[K.S, K.S] })
    (w0 : World) (hs : a.eval s = .slice (some ⟨w0.heap.size, 0, none⟩) 0 0) (B : Nat) (A : Option Addr) (m c : Nat) (xs : List α) (hx : a.eval x = .slice A m c) (hm : m = xs.length) (hr : Rs K w0 B A xs) (hB : B ≤ w0.heap.size) (hb : m * K.bytes ≤ 140737488355328)
    (h : ∀ A' c' w', OwnG K w' w0.heap.size A' m c' xs → Below w0.heap.size w0 w' → Kn (a.put o.dst (.slice A' m c')) w') : o.wp Tryz.prog a (w0.alloc (.cells #[] K.T)) Kn Q := by
  refine op_appG s x ho w0.heap.size _ 0 0 [] hs (own_newG K w0 _ _ rfl (Nat.le_refl _)) B A m c xs hx hm (hr.below (bal (Below.refl _ _) hB _)) (by rw [Nat.zero_add]; exact hb) (by simp) fun A' c' w' h1 h2 => ?_
  rw [Nat.zero_add] at h1 ⊢
  exact h A' c' w' h1 ((bal (Below.refl _ _) (Nat.le_refl _) _).trans h2)
theorem wp_copyG {ops : Array Oper} {rest : List Oper} {o : Oper} {a : Act} {Q : Exit → Act → World → Prop} (hgd : o.guard = none) (s x : Operand)
    (ho : o.op = .call { callee := .builtin .append, args := #[s, x], argTypes := #[K.S, K.S] })
    (w0 : World) (hs : a.eval s = .slice (some ⟨w0.heap.size, 0, none⟩) 0 0) (B : Nat) (A : Option Addr) (m c : Nat) (xs : List α) (hx : a.eval x = .slice A m c) (hm : m = xs.length) (hr : Rs K w0 B A xs) (hB : B ≤ w0.heap.size) (hb : m * K.bytes ≤ 140737488355328)
    (h : ∀ A' c' w', OwnG K w' w0.heap.size A' m c' xs → Below w0.heap.size w0 w' → wpList Tryz.prog ops Q rest (a.put o.dst (.slice A' m c')) w') : wpList Tryz.prog ops Q (o :: rest) a (w0.alloc (.cells #[] K.T)) :=
  wpList_plain hgd fun _ hK => op_copyG s x ho w0 hs B A m c xs hx hm hr hB hb fun A' c' w' h1 h2 => hK _ _ (h A' c' w' h1 h2)
end Rg
end Go.Proofs.YtfblnomkafimhaaGreat

namespace Go.Proofs.YtfblnomkafimhaaGreat.Lgw
set_option maxRecDepth 20000
open Go.RowKit
open Bk Lg
open Tgw (hat hbe)
open Rg (bal)

def cellsR (r : R) : List Value := [.int .i64 r.kind, .int .i64 r.va, .int .i64 r.vd, .int .i64 r.cn, .int .i64 r.ca, .int .i64 r.cd, .int .i64 r.e.key, .int .i64 r.e.num, .int .i64 r.e.node, .float .f64 r.e.val, .int .i64 r.n]
/-- a record as a value -/
def rvv (r : R) : Value := .agg #[.int .i64 r.kind, .int .i64 r.va, .int .i64 r.vd, .int .i64 r.cn, .int .i64 r.ca, .int .i64 r.cd, .int .i64 r.e.key, .int .i64 r.e.num, .int .i64 r.e.node, .float .f64 r.e.val, .int .i64 r.n]
theorem infoR : (Tryz.prog.info? 60).map (fun i => (i.zero, i.size, i.bytes)) = some (some (rvv zeroR), 11, 88) := by kernel_rfl
/-- records in slices -/
def KR : Kind R := ⟨cellsR, 11, 60, 40, 88, rvv zeroR, fun _ => rfl, fun x u hu => by
  simp only [cellsR, List.mem_cons, List.not_mem_nil, or_false] at hu
  rcases hu with rfl | rfl | rfl | rfl | rfl | rfl | rfl | rfl | rfl | rfl | rfl <;> rfl, by omega, by omega, infoR, Tryz.underlying40, rfl⟩
/-- a record in a block of its own -/
def Rx (w : World) (g : Nat) (r : R) : Prop := w.heap[g]? = some (.cells #[.int .i64 r.kind, .int .i64 r.va, .int .i64 r.vd, .int .i64 r.cn, .int .i64 r.ca, .int .i64 r.cd, .int .i64 r.e.key, .int .i64 r.e.num, .int .i64 r.e.node, .float .f64 r.e.val, .int .i64 r.n] 60)
section
variable {w : World} {g : Nat} {r : R}
theorem Rx.cell (h : Rx w g r) (i : Nat) (u : Value) (hu : (cellsR r)[i]? = some u) : w.cell? ⟨g, i, none⟩ = some u := by
  rw [cell_of_row _ _ _ _ _ _ h, ← hu]
  simp [cellsR]
theorem Rx.lt (h : Rx w g r) : g < w.heap.size := by
  rcases Nat.lt_or_ge g w.heap.size with h' | h'
  · exact h'
  · unfold Rx at h; rw [Array.getElem?_eq_none h'] at h; cases h
theorem Rx.all {w' : World} (h : Rx w g r) (hb : Below w.heap.size w w') : Rx w' g r := (hb.block g h.lt).trans h
theorem Rx.other (h : Rx w g r) {p : Addr} (hp : g ≠ p.block) (u : Value) : Rx (w.setCell p u) g r := (Below.heap_setCell w p u g hp).trans h
theorem Rx.frozen (h : Rx w g r) (i : Nat) : w.frozen? ⟨g, i, none⟩ = false := frozen_of_row w g i _ _ h
/-- all of its cells -/
theorem Rx.cs (h : Rx w g r) : w.cell? ⟨g, 0, none⟩ = some (.int .i64 r.kind) ∧ w.cell? ⟨g, 1, none⟩ = some (.int .i64 r.va) ∧ w.cell? ⟨g, 2, none⟩ = some (.int .i64 r.vd) ∧ w.cell? ⟨g, 3, none⟩ = some (.int .i64 r.cn) ∧ w.cell? ⟨g, 4, none⟩ = some (.int .i64 r.ca) ∧ w.cell? ⟨g, 5, none⟩ = some (.int .i64 r.cd) ∧
    w.cell? ⟨g, 6, none⟩ = some (.int .i64 r.e.key) ∧ w.cell? ⟨g, 7, none⟩ = some (.int .i64 r.e.num) ∧ w.cell? ⟨g, 8, none⟩ = some (.int .i64 r.e.node) ∧ w.cell? ⟨g, 9, none⟩ = some (.float .f64 r.e.val) ∧ w.cell? ⟨g, 10, none⟩ = some (.int .i64 r.n) :=
  ⟨h.cell 0 _ rfl, h.cell 1 _ rfl, h.cell 2 _ rfl, h.cell 3 _ rfl, h.cell 4 _ rfl, h.cell 5 _ rfl, h.cell 6 _ rfl, h.cell 7 _ rfl, h.cell 8 _ rfl, h.cell 9 _ rfl, h.cell 10 _ rfl⟩
end
/-- the cells of the record at an address, one by one -/
def Elv (w : World) (b o : Nat) (r : R) : Prop := w.cell? ⟨b, o, none⟩ = some (.int .i64 r.kind) ∧ w.cell? ⟨b, o + 1, none⟩ = some (.int .i64 r.va) ∧ w.cell? ⟨b, o + 2, none⟩ = some (.int .i64 r.vd) ∧ w.cell? ⟨b, o + 3, none⟩ = some (.int .i64 r.cn) ∧ w.cell? ⟨b, o + 4, none⟩ = some (.int .i64 r.ca) ∧ w.cell? ⟨b, o + 5, none⟩ = some (.int .i64 r.cd) ∧ w.cell? ⟨b, o + 6, none⟩ = some (.int .i64 r.e.key) ∧ w.cell? ⟨b, o + 7, none⟩ = some (.int .i64 r.e.num) ∧ w.cell? ⟨b, o + 8, none⟩ = some (.int .i64 r.e.node) ∧ w.cell? ⟨b, o + 9, none⟩ = some (.float .f64 r.e.val) ∧ w.cell? ⟨b, o + 10, none⟩ = some (.int .i64 r.n)
theorem elv_at {w : World} {b o : Nat} {r : R} (h : Rg.At KR w b o r) : Elv w b o r := ⟨h 0 _ rfl, h 1 _ rfl, h 2 _ rfl, h 3 _ rfl, h 4 _ rfl, h 5 _ rfl, h 6 _ rfl, h 7 _ rfl, h 8 _ rfl, h 9 _ rfl, h 10 _ rfl⟩
theorem Rx.at {w : World} {g : Nat} {r : R} (h : Rx w g r) : Rg.At KR w g 0 r := fun i u hu => by rw [Nat.zero_add]; exact h.cell i u hu
/-- a slice of records that is in memory now -/
def Sr (w : World) (A : Option Addr) (n c : Nat) (rs : List R) : Prop := n = rs.length ∧ n ≤ c ∧ n * 88 ≤ 140737488355328 ∧ (∀ r ∈ rs, Flt.U64 r.e.val) ∧ Rg.Rs KR w w.heap.size A rs
theorem Sr.all {w w' : World} {A : Option Addr} {n c : Nat} {rs : List R} (h : Sr w A n c rs) (hb : Below w.heap.size w w') : Sr w' A n c rs := ⟨h.1, h.2.1, h.2.2.1, h.2.2.2.1, (h.2.2.2.2.below hb).more hb.size⟩
theorem Sr.nil (w : World) : Sr w none 0 0 [] := ⟨rfl, Nat.le_refl _, by omega, by simp, Rg.Rs.nil⟩
theorem store_flt (a : Addr) (m : Mode) (w : World) (n : Nat) : (store a (.float .f64 n) m).run Tryz.prog w = stored Tryz.prog w a (.float .f64 n) m := run_store _ w a _ m rfl
theorem ret_bool {a b : Bool} (h : a = b) : Ending.returned (.bool a) = .returned (.bool b) := by rw [h]
theorem Rx.put1 {w : World} {g : Nat} {r : R} (h : Rx w g r) (i : Nat) (u : Value) (r2 : R) (he : (cellsR r).toArray.setIfInBounds i u = (cellsR r2).toArray) : Rx (w.setCell ⟨g, i, none⟩ u) g r2 := by
  unfold Rx at h ⊢
  rw [heap_setCell_same w g i _ _ _ h]
  exact congrArg (fun c => some (Obj.cells c 60 (0, 0))) he
/-- another record is stored there -/
theorem Rx.put {w : World} {g : Nat} {r : R} (h : Rx w g r) (f : R) : Rx (((((((((((w.setCell ⟨g, 0, none⟩ (.int .i64 f.kind)).setCell ⟨g, 1, none⟩ (.int .i64 f.va)).setCell ⟨g, 2, none⟩ (.int .i64 f.vd)).setCell ⟨g, 3, none⟩ (.int .i64 f.cn)).setCell ⟨g, 4, none⟩ (.int .i64 f.ca)).setCell ⟨g, 5, none⟩ (.int .i64 f.cd)).setCell ⟨g, 6, none⟩ (.int .i64 f.e.key)).setCell ⟨g, 7, none⟩ (.int .i64 f.e.num)).setCell ⟨g, 8, none⟩ (.int .i64 f.e.node)).setCell ⟨g, 9, none⟩ (.float .f64 f.e.val)).setCell ⟨g, 10, none⟩ (.int .i64 f.n)) g f :=
  ((((((((((h.put1 0 (.int .i64 f.kind) ⟨f.kind, r.va, r.vd, r.cn, r.ca, r.cd, r.e, r.n⟩ rfl).put1 1 (.int .i64 f.va) ⟨f.kind, f.va, r.vd, r.cn, r.ca, r.cd, r.e, r.n⟩ rfl).put1 2 (.int .i64 f.vd) ⟨f.kind, f.va, f.vd, r.cn, r.ca, r.cd, r.e, r.n⟩ rfl).put1 3 (.int .i64 f.cn) ⟨f.kind, f.va, f.vd, f.cn, r.ca, r.cd, r.e, r.n⟩ rfl).put1 4 (.int .i64 f.ca) ⟨f.kind, f.va, f.vd, f.cn, f.ca, r.cd, r.e, r.n⟩ rfl).put1 5 (.int .i64 f.cd) ⟨f.kind, f.va, f.vd, f.cn, f.ca, f.cd, r.e, r.n⟩ rfl).put1 6 (.int .i64 f.e.key) ⟨f.kind, f.va, f.vd, f.cn, f.ca, f.cd, ⟨f.e.key, r.e.num, r.e.node, r.e.val⟩, r.n⟩ rfl).put1 7 (.int .i64 f.e.num) ⟨f.kind, f.va, f.vd, f.cn, f.ca, f.cd, ⟨f.e.key, f.e.num, r.e.node, r.e.val⟩, r.n⟩ rfl).put1 8 (.int .i64 f.e.node) ⟨f.kind, f.va, f.vd, f.cn, f.ca, f.cd, ⟨f.e.key, f.e.num, f.e.node, r.e.val⟩, r.n⟩ rfl).put1 9 (.float .f64 f.e.val) ⟨f.kind, f.va, f.vd, f.cn, f.ca, f.cd, f.e, r.n⟩ rfl).put1 10 (.int .i64 f.n) f rfl
end Go.Proofs.YtfblnomkafimhaaGreat.Lgw

namespace Go.Proofs.YtfblnomkafimhaaGreat.Lgw
set_option maxRecDepth 20000
open Go.RowKit
open Bk Lg
open Tgw (hat hbe)
open Rg (bal)

theorem not_alike {x y : R} (h : ¬ (x.kind = y.kind ∧ x.va = y.va ∧ x.vd = y.vd ∧ x.cn = y.cn ∧ x.ca = y.ca ∧ x.cd = y.cd ∧ x.n = y.n)) : alikeR x y = false := by
  rw [Bool.eq_false_iff]
  intro h1
  rw [alikeR_iff] at h1
  omega
theorem is_alike {x y : R} (h : x.kind = y.kind ∧ x.va = y.va ∧ x.vd = y.vd ∧ x.cn = y.cn ∧ x.ca = y.ca ∧ x.cd = y.cd ∧ x.n = y.n) : alikeR x y = alike x.e y.e := by
  refine Bool.eq_iff_iff.2 ?_
  rw [alikeR_iff]
  constructor
  · intro h1; exact h1.2.2.2.2.2.2.2
  · intro h1; exact ⟨h.1, h.2.1, h.2.2.1, h.2.2.2.1, h.2.2.2.2.1, h.2.2.2.2.2.1, h.2.2.2.2.2.2, h1⟩
set_option maxHeartbeats 1000000 in
theorem alike_r (x y : R) (hx : Flt.U64 x.e.val) (hy : Flt.U64 y.e.val) (w : World) : Calls Tryz.prog 69 #[rvv x, rvv y] w fun e w' => e = .returned (.bool (alikeR x y)) ∧ Below w.heap.size w w' := by
  have HB1 := Lib.hid (fun W => Bkw.alike_r x.e y.e hx hy W)
  unfold Bkw.ev at HB1
  clear hx hy
  unfold rvv
  go_enter Tryz.func69, Tryz.ntmps69
  go_wp2_with fail
  · refine (HB1.out _).mono ?_
    rintro e w6 ⟨rfl, hb6⟩
    have HB6 := Lib.hid hb6; clear hb6
    have HE : Hid (alikeR x y = alike x.e y.e) := Lib.hid (is_alike (by omega))
    generalize alike x.e y.e = t at HE ⊢
    go_wp2
    all_goals
      go_ret
      refine ⟨ret_bool ?_, (bal (bal (Below.refl _ _) (Nat.le_refl _) _) (Nat.le_refl _) _).trans (HB6.out.mono (by simp; omega))⟩
      rw [HE.out]
  all_goals
    go_ret
    refine ⟨ret_bool (not_alike (by omega)).symm, bal (bal (Below.refl _ _) (Nat.le_refl _) _) (Nat.le_refl _) _⟩
end Go.Proofs.YtfblnomkafimhaaGreat.Lgw

namespace Go.Proofs.YtfblnomkafimhaaGreat.Lgw
set_option maxRecDepth 20000
open Go.RowKit
open Bk Lg
open Tgw (hat hbe)
open Rg (bal)
open Dkw (cell_block)

theorem rv_right (a d : Int) : Chgw.rightB a d = rv a d := by
  unfold Chgw.rightB rv
  rfl
theorem some1_val (r : R) (h : rv r.ca r.cd = true) : (!r.ca == 0 || !r.cd == 0) = some1 r := by
  unfold some1
  rw [h]
  by_cases h1 : r.ca = 0 <;> by_cases h2 : r.cd = 0 <;> simp [h1, h2]
theorem zal (a d c x y : Int) (e : E) (n : Int) : alikeR ⟨0, a, d, c, x, y, e, n⟩ zeroR = (decide (a = 0 ∧ d = 0) && (decide (c = 0 ∧ x = 0 ∧ y = 0) && (decide (n = 0) && ez e))) := by
  unfold alikeR zeroR ez
  simp only [decide_true, Bool.true_and]
theorem ez0 : ez (zero 0) = true := by decide +kernel
theorem right1 (r : R) (h : r.kind = 1) : rightR r = (rv r.va r.vd && (okE r.e && alikeR ⟨0, 0, 0, r.cn, r.ca, r.cd, zero 0, r.n⟩ zeroR)) := by
  unfold rightR
  rw [if_pos h, zal, ez0]
  simp [cz, nz]
theorem right2 (r : R) (h : r.kind = 2) : rightR r = (rv r.va r.vd && (some1 r && (decide (0 ≤ r.cn ∧ r.cn ≤ 5) && alikeR ⟨0, 0, 0, 0, 0, 0, r.e, r.n⟩ zeroR))) := by
  unfold rightR
  rw [if_neg (by omega), if_pos h, zal]
  simp [nz]
theorem right3 (r : R) (h : r.kind = 3) : rightR r = (rv r.va r.vd && alikeR ⟨0, 0, 0, r.cn, r.ca, r.cd, r.e, r.n⟩ zeroR) := by
  unfold rightR
  rw [if_neg (by omega), if_neg (by omega), if_pos h, zal]
  simp [cz, nz]
theorem right4 (r : R) (h : r.kind = 4 ∨ r.kind = 6) : rightR r = (nok r && alikeR ⟨0, r.va, r.vd, r.cn, r.ca, r.cd, r.e, 0⟩ zeroR) := by
  unfold rightR
  rw [if_neg (by omega), if_neg (by omega), if_neg (by omega), if_pos h, zal]
  simp [vz, cz]
theorem right5 (r : R) (h : r.kind = 5) : rightR r = (rv r.va r.vd && (some1 r && alikeR ⟨0, 0, 0, r.cn, 0, 0, r.e, r.n⟩ zeroR)) := by
  unfold rightR
  rw [if_neg (by omega), if_neg (by omega), if_neg (by omega), if_neg (by omega), if_pos h, zal]
  simp [nz]
theorem right0 (r : R) (h : ¬ (1 ≤ r.kind ∧ r.kind ≤ 6)) : rightR r = false := by
  unfold rightR
  rw [if_neg (by omega), if_neg (by omega), if_neg (by omega), if_neg (by omega), if_neg (by omega)]
theorem chk1 (e : E) : Bkw.chkN [e] = if okE e = true then 0 else 71 := by
  unfold Bkw.chkN isBook chk chk
  by_cases h : okE e = true
  · have h2 := (okE_iff e).1 h
    rw [if_pos h, h, decide_eq_true (by omega)]
    rfl
  · have h3 : okE e = false := by simpa using h
    rw [if_neg h, h3]
    rfl
theorem u0 : Flt.U64 zeroR.e.val := by show (0 : Nat) < _; decide
set_option maxHeartbeats 2000000 in
theorem right_r (r : R) (hv : Flt.U64 r.e.val) (w : World) : Calls Tryz.prog 31 #[rvv r] w fun e w' => e = .returned (.bool (rightR r)) ∧ Below w.heap.size w w' := by
  have HRA := Lib.hid (fun W => Chgw.right_r r.va r.vd W)
  have HRC := Lib.hid (fun W => Chgw.right_r r.ca r.cd W)
  rw [rv_right] at HRA HRC
  unfold Chgw.vw at HRA HRC
  have HU := Lib.hid hv; clear hv
  obtain ⟨v1, hv1⟩ : ∃ v1, v1 = rv r.va r.vd := ⟨_, rfl⟩
  rw [← hv1] at HRA
  have HV1 := Lib.hid hv1; clear hv1
  obtain ⟨nb, hnb⟩ : ∃ nb, nb = decide (0 ≤ r.cn ∧ r.cn ≤ 5) := ⟨_, rfl⟩
  obtain ⟨nk, hnk⟩ : ∃ nk, nk = nok r := ⟨_, rfl⟩
  obtain ⟨cb, hcb⟩ : ∃ cb, cb = some1 r := ⟨_, rfl⟩
  have HNB := Lib.hid hnb; have HNK := Lib.hid hnk; have HCB := Lib.hid hcb
  clear hnb hnk hcb
  unfold rvv
  go_enter Tryz.func31, Tryz.ntmps31
  go_upto_region 1 with (fail)
  have HX := Lib.hid (show Rx (w.alloc (.cells #[.int .i64 r.kind, .int .i64 r.va, .int .i64 r.vd, .int .i64 r.cn, .int .i64 r.ca, .int .i64 r.cd, .int .i64 r.e.key, .int .i64 r.e.num, .int .i64 r.e.node, .float .f64 r.e.val, .int .i64 r.n] 60)) w.heap.size r from hat _ _ _ rfl)
  have HB := Lib.hid (bal (Below.refl w.heap.size w) (Nat.le_refl _) (.cells #[.int .i64 r.kind, .int .i64 r.va, .int .i64 r.vd, .int .i64 r.cn, .int .i64 r.ca, .int .i64 r.cd, .int .i64 r.e.key, .int .i64 r.e.num, .int .i64 r.e.node, .float .f64 r.e.val, .int .i64 r.n] 60))
  have HG := Lib.hid (show w.heap.size < (w.alloc (.cells #[.int .i64 r.kind, .int .i64 r.va, .int .i64 r.vd, .int .i64 r.cn, .int .i64 r.ca, .int .i64 r.cd, .int .i64 r.e.key, .int .i64 r.e.num, .int .i64 r.e.node, .float .f64 r.e.val, .int .i64 r.n] 60)).heap.size from by simp)
  generalize w.alloc (.cells #[.int .i64 r.kind, .int .i64 r.va, .int .i64 r.vd, .int .i64 r.cn, .int .i64 r.ca, .int .i64 r.cd, .int .i64 r.e.key, .int .i64 r.e.num, .int .i64 r.e.node, .float .f64 r.e.val, .int .i64 r.n] 60) = w1 at HX HB HG ⊢
  have HK : Hid (∀ W', Below w1.heap.size w1 W' → Elv W' w.heap.size 0 r) := Lib.hid (fun W' h => elv_at (HX.out.all h).at)
  go_cut [3, 4] (fun s3 s4 wq => s3 = .bool v1 ∧ s4 = .bool cb ∧ Below w1.heap.size w1 wq)
  case first =>
    have heq := Chgw.eq_view
    refine wp_region_held_drew (S := fun W' => Below w1.heap.size w1 W') (by kernel_rfl) (Below.refl _ _).drew (fun hHeld => ?_)
    generalize w1.drew = w5 at hHeld ⊢
    have HB5 : Hid (Below w1.heap.size w1 w5) := hHeld
    clear hHeld
    refine take_in (i := 0) (oi := ⟨_, _, _, _, _, _⟩) (v := ?_) rfl (by kernel_rfl) (by kernel_rfl) (by kernel_rfl) (fun _ _ _ h => h) (by rfl) ?_ HB5.out ?_
    rotate_left
    · intro W hW; have hq := HK.out W hW; unfold Elv at hq; go_simp; with_reducible rfl
    simp only [Act.put, List.setIfInBounds_toArray, List.set_cons_zero, List.set_cons_succ]
    refine take_in (i := 1) (oi := ⟨_, _, _, _, _, _⟩) (v := ?_) rfl (by kernel_rfl) (by kernel_rfl) (by kernel_rfl) (fun _ _ _ h => h) (by rfl) ?_ HB5.out ?_
    rotate_left
    · intro W hW; have hq := HK.out W hW; unfold Elv at hq; go_simp; with_reducible rfl
    simp only [Act.put, List.setIfInBounds_toArray, List.set_cons_zero, List.set_cons_succ]
    refine take_in (i := 3) (oi := ⟨_, _, _, _, _, _⟩) (v := ?_) rfl (by kernel_rfl) (by kernel_rfl) (by kernel_rfl) (fun _ _ _ h => h) (by rfl) ?_ HB5.out ?_
    rotate_left
    · intro W hW; have hq := HK.out W hW; unfold Elv at hq; go_simp; with_reducible rfl
    simp only [Act.put, List.setIfInBounds_toArray, List.set_cons_zero, List.set_cons_succ]
    refine take_in (i := 4) (oi := ⟨_, _, _, _, _, _⟩) (v := ?_) rfl (by kernel_rfl) (by kernel_rfl) (by kernel_rfl) (fun _ _ _ h => h) (by rfl) ?_ HB5.out ?_
    rotate_left
    · intro W hW; have hq := HK.out W hW; unfold Elv at hq; go_simp; with_reducible rfl
    simp only [Act.put, List.setIfInBounds_toArray, List.set_cons_zero, List.set_cons_succ]
    refine take_in (i := 5) (oi := ⟨_, _, _, _, _, _⟩) (v := ?_) rfl (by kernel_rfl) (by kernel_rfl) (by kernel_rfl) (fun _ _ _ h => h) (by rfl) ?_ HB5.out ?_
    rotate_left
    · intro W hW; have hq := HK.out W hW; unfold Elv at hq; go_simp; with_reducible rfl
    simp only [Act.put, List.setIfInBounds_toArray, List.set_cons_zero, List.set_cons_succ]
    refine wpAnyH_ready (rs := [2]) (by kernel_rfl) (by simp) ?_
    refine AllReadyH.cons (o := ⟨_, _, _, _, _, _⟩) rfl (fun K hK => ?_) AllReadyH.nil
    go_simp
    refine (HRA.out _).mono ?_
    rintro e w6 ⟨rfl, hb6⟩
    have HB6 := Lib.hid (HB5.out.trans (hb6.mono HB5.out.size)); clear hb6
    refine hK.out _ _ HB6.out (fun _ => ?_)
    clear hK K
    refine wpAnyH_ready (rs := [6]) (by kernel_rfl) (by simp) ?_
    refine AllReadyH.cons (o := ⟨_, _, _, _, _, _⟩) rfl (fun K hK => ?_) AllReadyH.nil
    go_simp
    refine (HRC.out _).mono ?_
    rintro e w7 ⟨rfl, hb7⟩
    have HB7 := Lib.hid (HB6.out.trans (hb7.mono HB6.out.size)); clear hb7
    refine hK.out _ _ HB7.out (fun _ => ?_)
    clear hK K
    obtain ⟨v2, hv2⟩ : ∃ v2, v2 = rv r.ca r.cd := ⟨_, rfl⟩
    rw [← hv2]
    have HV2 := Lib.hid hv2
    clear hv2
    refine take_in (i := 7) (oi := ⟨_, _, _, _, _, _⟩) (v := ?_) rfl (by kernel_rfl) (by kernel_rfl) (by kernel_rfl) (fun _ _ _ h => h) (by rfl) ?_ HB7.out ?_
    rotate_left
    · intro W hW; go_simp; with_reducible rfl
    simp only [Act.put, List.setIfInBounds_toArray, List.set_cons_zero, List.set_cons_succ]
    cases v2 with
    | true =>
      refine take_in (i := 8) (oi := ⟨_, _, _, _, _, _⟩) (v := ?_) rfl (by kernel_rfl) (by kernel_rfl) (by kernel_rfl) (fun _ _ _ h => h) (by rfl) ?_ HB7.out ?_
      rotate_left
      · intro W hW; have hq := HK.out W hW; unfold Elv at hq; go_simp; with_reducible rfl
      simp only [Act.put, List.setIfInBounds_toArray, List.set_cons_zero, List.set_cons_succ]
      refine take_in (i := 9) (oi := ⟨_, _, _, _, _, _⟩) (v := ?_) rfl (by kernel_rfl) (by kernel_rfl) (by kernel_rfl) (fun _ _ _ h => h) (by rfl) ?_ HB7.out ?_
      rotate_left
      · intro W hW; have hq := HK.out W hW; unfold Elv at hq; go_simp; with_reducible rfl
      simp only [Act.put, List.setIfInBounds_toArray, List.set_cons_zero, List.set_cons_succ]
      refine take_in (i := 10) (oi := ⟨_, _, _, _, _, _⟩) (v := ?_) rfl (by kernel_rfl) (by kernel_rfl) (by kernel_rfl) (fun _ _ _ h => h) (by rfl) ?_ HB7.out ?_
      rotate_left
      · intro W hW; have hq := HK.out W hW; unfold Elv at hq; go_simp; with_reducible rfl
      simp only [Act.put, List.setIfInBounds_toArray, List.set_cons_zero, List.set_cons_succ]
      refine take_in (i := 11) (oi := ⟨_, _, _, _, _, _⟩) (v := ?_) rfl (by kernel_rfl) (by kernel_rfl) (by kernel_rfl) (fun _ _ _ h => h) (by rfl) ?_ HB7.out ?_
      rotate_left
      · intro W hW; have hq := HK.out W hW; unfold Elv at hq; go_simp; with_reducible rfl
      simp only [Act.put, List.setIfInBounds_toArray, List.set_cons_zero, List.set_cons_succ]
      refine take_in (i := 12) (oi := ⟨_, _, _, _, _, _⟩) (v := ?_) rfl (by kernel_rfl) (by kernel_rfl) (by kernel_rfl) (fun _ _ _ h => h) (by rfl) ?_ HB7.out ?_
      rotate_left
      · intro W hW; have hq := HK.out W hW; unfold Elv at hq; go_simp; with_reducible rfl
      simp only [Act.put, List.setIfInBounds_toArray, List.set_cons_zero, List.set_cons_succ]
      refine take_in (i := 13) (oi := ⟨_, _, _, _, _, _⟩) (v := ?_) rfl (by kernel_rfl) (by kernel_rfl) (by kernel_rfl) (fun _ _ _ h => h) (by rfl) ?_ HB7.out ?_
      rotate_left
      · intro W hW; have hq := HK.out W hW; unfold Elv at hq; go_simp; with_reducible rfl
      simp only [Act.put, List.setIfInBounds_toArray, List.set_cons_zero, List.set_cons_succ]
      refine take_in (i := 14) (oi := ⟨_, _, _, _, _, _⟩) (v := ?_) rfl (by kernel_rfl) (by kernel_rfl) (by kernel_rfl) (fun _ _ _ h => h) (by rfl) ?_ HB7.out ?_
      rotate_left
      · intro W hW; have hq := HK.out W hW; unfold Elv at hq; go_simp; with_reducible rfl
      simp only [Act.put, List.setIfInBounds_toArray, List.set_cons_zero, List.set_cons_succ]
      refine take_in (i := 15) (oi := ⟨_, _, _, _, _, _⟩) (v := ?_) rfl (by kernel_rfl) (by kernel_rfl) (by kernel_rfl) (fun _ _ _ h => h) (by rfl) ?_ HB7.out ?_
      rotate_left
      · intro W hW; have hq := HK.out W hW; unfold Elv at hq; go_simp; with_reducible rfl
      simp only [Act.put, List.setIfInBounds_toArray, List.set_cons_zero, List.set_cons_succ]
      refine wpAnyH_done (by kernel_rfl) ?_ _
      have HSV := Lib.hid (some1_val r HV2.out.symm)
      generalize (!r.ca == 0 || !r.cd == 0) = zz at HSV ⊢
      go_wp2
      go_meet
      case rel => exact ⟨rfl, by rw [HCB.out, HSV.out], HB7.out⟩
    | false =>
      refine skip_in (i := 8) (oi := ⟨_, _, _, _, _, _⟩) rfl (by kernel_rfl) (by kernel_rfl) (by kernel_rfl) (fun _ _ _ h => h) (by rfl) HB7.out ?_
      simp only [Act.put, List.setIfInBounds_toArray, List.set_cons_zero, List.set_cons_succ]
      refine skip_in (i := 9) (oi := ⟨_, _, _, _, _, _⟩) rfl (by kernel_rfl) (by kernel_rfl) (by kernel_rfl) (fun _ _ _ h => h) (by rfl) HB7.out ?_
      simp only [Act.put, List.setIfInBounds_toArray, List.set_cons_zero, List.set_cons_succ]
      refine skip_in (i := 10) (oi := ⟨_, _, _, _, _, _⟩) rfl (by kernel_rfl) (by kernel_rfl) (by kernel_rfl) (fun _ _ _ h => h) (by rfl) HB7.out ?_
      simp only [Act.put, List.setIfInBounds_toArray, List.set_cons_zero, List.set_cons_succ]
      refine skip_in (i := 11) (oi := ⟨_, _, _, _, _, _⟩) rfl (by kernel_rfl) (by kernel_rfl) (by kernel_rfl) (fun _ _ _ h => h) (by rfl) HB7.out ?_
      simp only [Act.put, List.setIfInBounds_toArray, List.set_cons_zero, List.set_cons_succ]
      refine skip_in (i := 12) (oi := ⟨_, _, _, _, _, _⟩) rfl (by kernel_rfl) (by kernel_rfl) (by kernel_rfl) (fun _ _ _ h => h) (by rfl) HB7.out ?_
      simp only [Act.put, List.setIfInBounds_toArray, List.set_cons_zero, List.set_cons_succ]
      refine take_in (i := 13) (oi := ⟨_, _, _, _, _, _⟩) (v := ?_) rfl (by kernel_rfl) (by kernel_rfl) (by kernel_rfl) (fun _ _ _ h => h) (by rfl) ?_ HB7.out ?_
      rotate_left
      · intro W hW; go_simp; with_reducible rfl
      simp only [Act.put, List.setIfInBounds_toArray, List.set_cons_zero, List.set_cons_succ]
      refine take_in (i := 14) (oi := ⟨_, _, _, _, _, _⟩) (v := ?_) rfl (by kernel_rfl) (by kernel_rfl) (by kernel_rfl) (fun _ _ _ h => h) (by rfl) ?_ HB7.out ?_
      rotate_left
      · intro W hW; go_simp; with_reducible rfl
      simp only [Act.put, List.setIfInBounds_toArray, List.set_cons_zero, List.set_cons_succ]
      refine take_in (i := 15) (oi := ⟨_, _, _, _, _, _⟩) (v := ?_) rfl (by kernel_rfl) (by kernel_rfl) (by kernel_rfl) (fun _ _ _ h => h) (by rfl) ?_ HB7.out ?_
      rotate_left
      · intro W hW; go_simp; with_reducible rfl
      simp only [Act.put, List.setIfInBounds_toArray, List.set_cons_zero, List.set_cons_succ]
      refine wpAnyH_done (by kernel_rfl) ?_ _
      go_wp2
      go_meet
      case rel => exact ⟨rfl, by rw [HCB.out]; unfold some1; rw [← HV2.out]; rfl, HB7.out⟩
  case rest =>
    obtain ⟨rfl, rfl, hb8⟩ := hcut
    have HB8 := Lib.hid hb8; clear hb8
    have HX := Lib.hid (HX.out.all HB8.out)
    have HBB := Lib.hid (HB.out.trans (HB8.out.mono HB.out.size))
    have HGG : Hid (w.heap.size < wc.heap.size) := Lib.hid (Nat.lt_of_lt_of_le HG.out HB8.out.size)
    clear HK HB HG HB8
    obtain ⟨z0, z1, z2, z3, z4, z5, z6, z7, z8, z9, z10⟩ := HX.out.cs
    clear HRA HRC
    go_upto_region 2 with (fail)
    go_cut [5] (fun s5 wq => s5 = .bool nb ∧ wq = wc)
    case first =>
      go_wp2
      all_goals
        go_meet
        case rel => exact ⟨by rw [HNB.out]; congr 1; simp; omega, rfl⟩
    case rest =>
      obtain ⟨rfl, rfl⟩ := hcut
      go_upto_region 3 with (fail)
      go_cut [6] (fun s6 wq => s6 = .bool nk ∧ wq = wc)
      case first =>
        go_wp2
        all_goals
          go_meet
          case rel => exact ⟨by rw [HNK.out]; unfold nok; congr 1; simp; omega, rfl⟩
      case rest =>
        obtain ⟨rfl, rfl⟩ := hcut
        have hsf := store_flt
        have hal : ∀ (o : Obj) (i : Nat), (wc.alloc o).cell? ⟨w.heap.size, i, none⟩ = wc.cell? ⟨w.heap.size, i, none⟩ := fun o i => cell_block (Below.heap_alloc wc o w.heap.size HGG.out)
        by_cases h3 : r.kind = 3
        · have HE := Lib.hid (right3 r h3)
          rw [h3] at z0
          go_wp2_with fail
          · refine (alike_r ⟨0, 0, 0, r.cn, r.ca, r.cd, r.e, r.n⟩ zeroR HU.out u0 _).mono ?_
            rintro e w9 ⟨rfl, hb9⟩
            have HB9 := Lib.hid ((bal HBB.out (Nat.le_refl _) _).trans (hb9.mono (Nat.le_trans HBB.out.size (by simp)))); clear hb9
            generalize alikeR ⟨0, 0, 0, r.cn, r.ca, r.cd, r.e, r.n⟩ zeroR = t at HE ⊢
            go_wp2
            all_goals
              go_ret
              exact ⟨ret_bool (by rw [HE.out, ← HV1.out]; simp [*]), HB9.out⟩
          all_goals
            go_ret
            exact ⟨ret_bool (by rw [HE.out, ← HV1.out]; simp [*]), bal HBB.out (Nat.le_refl _) _⟩
        by_cases h2 : r.kind = 2
        · have HE := Lib.hid (right2 r h2)
          rw [← HNB.out, ← HCB.out] at HE
          rw [h2] at z0
          go_wp2_with fail
          · refine (alike_r ⟨0, 0, 0, 0, 0, 0, r.e, r.n⟩ zeroR HU.out u0 _).mono ?_
            rintro e w9 ⟨rfl, hb9⟩
            have HB9 := Lib.hid ((bal HBB.out (Nat.le_refl _) _).trans (hb9.mono (Nat.le_trans HBB.out.size (by simp)))); clear hb9
            generalize alikeR ⟨0, 0, 0, 0, 0, 0, r.e, r.n⟩ zeroR = t at HE ⊢
            go_wp2
            all_goals
              go_ret
              exact ⟨ret_bool (by rw [HE.out, ← HV1.out]; simp [*]), HB9.out⟩
          all_goals
            go_ret
            exact ⟨ret_bool (by rw [HE.out, ← HV1.out]; simp [*]), bal HBB.out (Nat.le_refl _) _⟩
        by_cases h5 : r.kind = 5
        · have HE := Lib.hid (right5 r h5)
          rw [← HCB.out] at HE
          rw [h5] at z0
          go_wp2_with fail
          · refine (alike_r ⟨0, 0, 0, r.cn, 0, 0, r.e, r.n⟩ zeroR HU.out u0 _).mono ?_
            rintro e w9 ⟨rfl, hb9⟩
            have HB9 := Lib.hid ((bal HBB.out (Nat.le_refl _) _).trans (hb9.mono (Nat.le_trans HBB.out.size (by simp)))); clear hb9
            generalize alikeR ⟨0, 0, 0, r.cn, 0, 0, r.e, r.n⟩ zeroR = t at HE ⊢
            go_wp2
            all_goals
              go_ret
              exact ⟨ret_bool (by rw [HE.out, ← HV1.out]; simp [*]), HB9.out⟩
          all_goals
            go_ret
            exact ⟨ret_bool (by rw [HE.out, ← HV1.out]; simp [*]), bal HBB.out (Nat.le_refl _) _⟩
        by_cases h4 : r.kind = 4 ∨ r.kind = 6
        · have HE := Lib.hid (right4 r h4)
          rw [← HNK.out] at HE
          rcases h4 with h4 | h4
          all_goals
            rw [h4] at z0
            go_wp2_with fail
          all_goals first
          | (go_ret; exact ⟨ret_bool (by rw [HE.out]; simp [*]), bal HBB.out (Nat.le_refl _) _⟩)
          | skip
          all_goals
            refine (alike_r ⟨0, r.va, r.vd, r.cn, r.ca, r.cd, r.e, 0⟩ zeroR HU.out u0 _).mono ?_
            rintro e w9 ⟨rfl, hb9⟩
            have HB9 := Lib.hid ((bal HBB.out (Nat.le_refl _) _).trans (hb9.mono (Nat.le_trans HBB.out.size (by simp)))); clear hb9
            generalize alikeR ⟨0, r.va, r.vd, r.cn, r.ca, r.cd, r.e, 0⟩ zeroR = t at HE ⊢
            go_wp2
            all_goals
              go_ret
              exact ⟨ret_bool (by rw [HE.out]; simp [*]), HB9.out⟩
        by_cases h1 : r.kind = 1
        · have HE := Lib.hid (right1 r h1)
          rw [h1] at z0
          go_wp2_with fail
          · have HZ := Lib.hid (show Rx ((wc.alloc (.cells #[.int .i64 0, .int .i64 0, .int .i64 0, .int .i64 r.cn, .int .i64 r.ca, .int .i64 r.cd, .int .i64 0, .int .i64 0, .int .i64 0, .float .f64 0, .int .i64 r.n] 60)).alloc (.cells #[.int .i64 r.e.key, .int .i64 r.e.num, .int .i64 r.e.node, .float .f64 r.e.val] 58)) wc.heap.size ⟨0, 0, 0, r.cn, r.ca, r.cd, zero 0, r.n⟩ from hbe (hat _ _ _ rfl))
            have HRE := Lib.hid (show Bkw.Re ((wc.alloc (.cells #[.int .i64 0, .int .i64 0, .int .i64 0, .int .i64 r.cn, .int .i64 r.ca, .int .i64 r.cd, .int .i64 0, .int .i64 0, .int .i64 0, .float .f64 0, .int .i64 r.n] 60)).alloc (.cells #[.int .i64 r.e.key, .int .i64 r.e.num, .int .i64 r.e.node, .float .f64 r.e.val] 58)) ((wc.alloc (.cells #[.int .i64 0, .int .i64 0, .int .i64 0, .int .i64 r.cn, .int .i64 r.ca, .int .i64 r.cd, .int .i64 0, .int .i64 0, .int .i64 0, .float .f64 0, .int .i64 r.n] 60)).alloc (.cells #[.int .i64 r.e.key, .int .i64 r.e.num, .int .i64 r.e.node, .float .f64 r.e.val] 58)).heap.size (some ⟨wc.heap.size + 1, 0, none⟩) [r.e] from by
              have := Bkw.re_new (wc.alloc (.cells #[.int .i64 0, .int .i64 0, .int .i64 0, .int .i64 r.cn, .int .i64 r.ca, .int .i64 r.cd, .int .i64 0, .int .i64 0, .int .i64 0, .float .f64 0, .int .i64 r.n] 60)) [r.e]
              rw [World.size_alloc] at this ⊢
              rw [World.size_alloc]
              exact this)
            have HBW := Lib.hid (show Below w.heap.size w ((wc.alloc (.cells #[.int .i64 0, .int .i64 0, .int .i64 0, .int .i64 r.cn, .int .i64 r.ca, .int .i64 r.cd, .int .i64 0, .int .i64 0, .int .i64 0, .float .f64 0, .int .i64 r.n] 60)).alloc (.cells #[.int .i64 r.e.key, .int .i64 r.e.num, .int .i64 r.e.node, .float .f64 r.e.val] 58)) from bal (bal HBB.out (Nat.le_refl _) _) (Nat.le_refl _) _)
            generalize ((wc.alloc (.cells #[.int .i64 0, .int .i64 0, .int .i64 0, .int .i64 r.cn, .int .i64 r.ca, .int .i64 r.cd, .int .i64 0, .int .i64 0, .int .i64 0, .float .f64 0, .int .i64 r.n] 60)).alloc (.cells #[.int .i64 r.e.key, .int .i64 r.e.num, .int .i64 r.e.node, .float .f64 r.e.val] 58)) = w9 at HZ HRE HBW ⊢
            refine (Bkw.check_r _ 1 1 [r.e] rfl (by omega) _ w9 HRE.out (Nat.le_refl _)).mono ?_
            rintro e w10 ⟨rfl, hb10⟩
            have HZ10 := Lib.hid (HZ.out.all hb10)
            have HBT := Lib.hid (HBW.out.trans (hb10.mono HBW.out.size))
            clear hb10 hal
            obtain ⟨y0, y1, y2, y3, y4, y5, y6, y7, y8, y9, y10⟩ := HZ10.out.cs
            rw [chk1]
            cases hok : okE r.e with
            | false =>
              rw [hok] at HE
              simp only [Bool.false_eq_true, if_false]
              go_wp2
              go_ret
              exact ⟨ret_bool (by rw [HE.out, ← HV1.out]; simp [*]), HBT.out⟩
            | true =>
              rw [hok] at HE
              simp only [if_true]
              go_wp2_with fail
              refine (alike_r ⟨0, 0, 0, r.cn, r.ca, r.cd, zero 0, r.n⟩ zeroR u0 u0 _).mono ?_
              rintro e w11 ⟨rfl, hb11⟩
              have HBU := Lib.hid (HBT.out.trans (hb11.mono HBT.out.size)); clear hb11
              generalize alikeR ⟨0, 0, 0, r.cn, r.ca, r.cd, zero 0, r.n⟩ zeroR = t at HE ⊢
              go_wp2
              all_goals
                go_ret
                exact ⟨ret_bool (by rw [HE.out, ← HV1.out]; simp [*]), HBU.out⟩
          all_goals
            go_ret
            exact ⟨ret_bool (by rw [HE.out, ← HV1.out]; simp [*]), bal HBB.out (Nat.le_refl _) _⟩
        · have HE := Lib.hid (right0 r (by omega))
          have k1 : (r.kind == 1) = false := by rw [beq_eq_false_iff_ne]; omega
          have k2 : (r.kind == 2) = false := by rw [beq_eq_false_iff_ne]; omega
          have k3 : (r.kind == 3) = false := by rw [beq_eq_false_iff_ne]; omega
          have k4 : (r.kind == 4) = false := by rw [beq_eq_false_iff_ne]; omega
          have k5 : (r.kind == 5) = false := by rw [beq_eq_false_iff_ne]; omega
          have k6 : (r.kind == 6) = false := by rw [beq_eq_false_iff_ne]; omega
          go_wp2
          go_ret
          exact ⟨ret_bool HE.out.symm, bal HBB.out (Nat.le_refl _) _⟩
end Go.Proofs.YtfblnomkafimhaaGreat.Lgw
