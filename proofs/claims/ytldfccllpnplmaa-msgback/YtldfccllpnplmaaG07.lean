/- Contracts and words on which the claims of this seat stand, part 7: LgI RowG LgW LgR LgS LgT. -/
import Derived.Test.YtldfccllpnplmaaG01
import Derived.Test.YtldfccllpnplmaaG02
import Derived.Test.YtldfccllpnplmaaG03
import Derived.Test.YtldfccllpnplmaaG04
import Derived.Test.YtldfccllpnplmaaG05
import Derived.Test.YtldfccllpnplmaaG06
import Derived.Laws.StructEq
set_option linter.unusedSimpArgs false
set_option linter.unusedVariables false
namespace Go.Proofs.Ytldfccllpnplmaa.Lgw
set_option maxRecDepth 20000
end Go.Proofs.Ytldfccllpnplmaa.Lgw

namespace Go.Proofs.Ytldfccllpnplmaa
set_option maxRecDepth 20000
open Go.RowKit

/-- a kind of elements: their cells, their type, the type of their slices -/
structure Kind (α : Type) where
  cells : α → List Value
  k : Nat
  T : TypeId
  S : TypeId
  bytes : Nat
  zero : Value
  len : ∀ x, (cells x).length = k
  one : ∀ x, ∀ u ∈ cells x, u.oneCell' = true
  kpos : 0 < k
  bpos : 0 < bytes
  info : (Try.prog.info? T).map (fun i => (i.zero, i.size, i.bytes)) = some (some zero, k, bytes)
  und : Try.prog.underlying S = some (.slice T)
  zs : zero.cells.size = k
namespace Rg
variable {α : Type} (K : Kind α)

theorem bal {B : Nat} {w0 w : World} (h : Below B w0 w) (hB : B ≤ w0.heap.size) (o : Obj) : Below B w0 (w.alloc o) := h.alloc (Nat.le_trans hB h.size) o
theorem add_at (b o j : Nat) : (⟨b, o, none⟩ : Addr).add j = ⟨b, o + j, none⟩ := by unfold Addr.add; split <;> simp_all
/-- the cells of the element at an address -/
def At (w : World) (b o : Nat) (x : α) : Prop := ∀ i u, (K.cells x)[i]? = some u → w.cell? ⟨b, o + i, none⟩ = some u
variable {K}
theorem At.below {w w' : World} {b o B : Nat} {x : α} (h : At K w b o x) (hb : Below B w w') (hB : b < B) : At K w' b o x :=
  fun i u hu => (hb.cell (p := ⟨b, o + i, none⟩) hB).trans (h i u hu)
variable (K)
/-- the slice A holds these elements, below block B -/
def Rs (w : World) (B : Nat) (A : Option Addr) (xs : List α) : Prop :=
  0 < xs.length → ∃ b o, A = some ⟨b, o, none⟩ ∧ b < B ∧ ∀ (j : Nat) (x : α), xs[j]? = some x → At K w b (o + j * K.k) x
variable {K}
theorem Rs.nil {w : World} {B : Nat} {A : Option Addr} : Rs K w B A [] := fun h => absurd h (by simp)
theorem Rs.below {w w' : World} {B : Nat} {A : Option Addr} {xs : List α} (h : Rs K w B A xs) (hb : Below B w w') : Rs K w' B A xs := by
  intro hn
  obtain ⟨b, o, e, hB, hc⟩ := h hn
  exact ⟨b, o, e, hB, fun j v hv => (hc j v hv).below hb hB⟩
theorem Rs.more {w : World} {B B' : Nat} {A : Option Addr} {xs : List α} (h : Rs K w B A xs) (hB : B ≤ B') : Rs K w B' A xs := by
  intro hn
  obtain ⟨b, o, e, hb, hc⟩ := h hn
  exact ⟨b, o, e, by omega, hc⟩
theorem Rs.take {w : World} {B : Nat} {A : Option Addr} {xs : List α} (h : Rs K w B A xs) (k : Nat) : Rs K w B A (xs.take k) := by
  intro hn
  obtain ⟨b, o, e, hb, hc⟩ := h (by simp at hn; omega)
  refine ⟨b, o, e, hb, fun j u hu => hc j u ?_⟩
  rw [List.getElem?_take] at hu
  split at hu
  · exact hu
  · cases hu
variable (K)
def flat (xs : List α) : List Value := xs.flatMap K.cells
theorem flat_len (xs : List α) : (flat K xs).length = xs.length * K.k := by
  induction xs with
  | nil => simp [flat]
  | cons x l ih =>
    have e : flat K (x :: l) = K.cells x ++ flat K l := rfl
    rw [e, List.length_append, K.len, ih, List.length_cons, Nat.add_mul]
    omega
theorem flat_one (xs : List α) : ∀ u ∈ flat K xs, u.oneCell' = true := by
  intro u hu
  obtain ⟨v, _, hv⟩ := List.mem_flatMap.1 hu
  exact K.one v u hv
theorem flat_at : ∀ (xs : List α) (j : Nat) (x : α), xs[j]? = some x → ∀ i, i < K.k → (flat K xs)[j * K.k + i]? = (K.cells x)[i]?
  | [], _, _, h, _, _ => by simp at h
  | x :: l, 0, v, h, i, hi => by
    simp only [List.getElem?_cons_zero, Option.some.injEq] at h
    subst h
    have e : flat K (x :: l) = K.cells x ++ flat K l := rfl
    rw [e, Nat.zero_mul, Nat.zero_add, List.getElem?_append_left (by rw [K.len]; exact hi)]
  | x :: l, j + 1, v, h, i, hi => by
    have ih := flat_at l j v (by simpa using h) i hi
    have e : flat K (x :: l) = K.cells x ++ flat K l := rfl
    have e2 : (j + 1) * K.k + i = K.k + (j * K.k + i) := by rw [Nat.add_mul]; omega
    rw [e, e2, List.getElem?_append_right (by rw [K.len]; omega), K.len, Nat.add_sub_cancel_left]
    exact ih
theorem flat_get (xs : List α) (j : Nat) (u : Value) (h : (flat K xs)[j]? = some u) : ∃ (k i : Nat) (x : α), xs[k]? = some x ∧ i < K.k ∧ j = k * K.k + i ∧ (K.cells x)[i]? = some u := by
  have hj : j < xs.length * K.k := by
    rw [← flat_len]
    rcases Nat.lt_or_ge j (flat K xs).length with h' | h'
    · exact h'
    · rw [List.getElem?_eq_none h'] at h; cases h
  have hi : j / K.k < xs.length := (Nat.div_lt_iff_lt_mul K.kpos).2 hj
  have hm : j % K.k < K.k := Nat.mod_lt _ K.kpos
  have hd : j / K.k * K.k + j % K.k = j := by rw [Nat.mul_comm]; exact Nat.div_add_mod j K.k
  have hv : xs[j / K.k]? = some xs[j / K.k] := List.getElem?_eq_getElem hi
  have hf := flat_at K xs (j / K.k) _ hv (j % K.k) hm
  rw [hd, h] at hf
  exact ⟨j / K.k, j % K.k, _, hv, hm, hd.symm, hf.symm⟩
theorem lt_cells {x : α} {i : Nat} {u : Value} (h : (K.cells x)[i]? = some u) : i < K.k := by
  rcases Nat.lt_or_ge i K.k with h' | h'
  · exact h'
  · rw [List.getElem?_eq_none (by rw [K.len]; exact h')] at h; cases h
theorem one_cells (w : World) (xs : List α) (j : Nat) (x : α) (he : xs[j]? = some x) : At K (w.alloc (.cells (flat K xs).toArray K.T)) w.heap.size (0 + j * K.k) x := by
  intro i u hu
  have h := flat_at K xs j x he i (lt_cells K hu)
  rw [cell_of_row _ _ _ _ _ _ (heap_alloc_new w _), Nat.zero_add]
  rw [hu] at h
  simpa using h
theorem rs_new (w : World) (xs : List α) : Rs K (w.alloc (.cells (flat K xs).toArray K.T)) (w.heap.size + 1) (some ⟨w.heap.size, 0, none⟩) xs :=
  fun _ => ⟨_, _, rfl, by omega, fun j v hv => one_cells K w xs j v hv⟩
/-- the slice A holds the elements xs, in a row of the call's own from block base on -/
def OwnG (w : World) (base : Nat) (A : Option Addr) (n c : Nat) (xs : List α) : Prop := n = xs.length ∧ w.ownsRow base K.T K.k (.slice A n c) n (flat K xs)
/-- it returns a slice of its own with these elements; below base nothing has turned -/
def RetOwnG (w : World) (base : Nat) (xs : List α) (e : Ending) (w' : World) : Prop := ∃ A n c, e = .returned (.slice A n c) ∧ OwnG K w' base A n c xs ∧ Below base w w'
variable {K}
theorem OwnG.rs {w : World} {base : Nat} {A : Option Addr} {n c : Nat} {xs : List α} (h : OwnG K w base A n c xs) : Rs K w w.heap.size A xs := by
  intro hp
  rcases h.2.2 with ⟨_, h0⟩ | ⟨g, cap, cur, e, _, hh, _⟩
  · exfalso
    rw [← h.1] at hp
    omega
  · injection e with e1 e2 e3
    subst e1
    refine ⟨g, 0, rfl, (h.2.lt g rfl).2, fun j v hv i u hu => ?_⟩
    have hf := flat_at K xs j v hv i (lt_cells K hu)
    rw [hu] at hf
    have h1 := h.2.cells (g := g) rfl _ _ hf
    rw [add_at] at h1
    rw [← h1]
    congr 2
    omega
theorem OwnG.below {w w' : World} {base B : Nat} {A : Option Addr} {n c : Nat} {xs : List α} (h : OwnG K w base A n c xs) (hb : Below B w w') (hB : w.heap.size ≤ B) : OwnG K w' base A n c xs := by
  refine ⟨h.1, h.2.1, ?_⟩
  rcases h.2.2 with h0 | ⟨g, cap, cur, hv, hg, hh, r⟩
  · exact .inl h0
  · refine .inr ⟨g, cap, cur, hv, hg, ?_, r⟩
    injection hv with e1 e2 e3
    subst e1
    rw [hb.block g (Nat.lt_of_lt_of_le (h.2.lt g rfl).2 hB)]
    exact hh
theorem OwnG.alloc {w : World} {base : Nat} {A : Option Addr} {n c : Nat} {xs : List α} (h : OwnG K w base A n c xs) (o : Obj) : OwnG K (w.alloc o) base A n c xs := ⟨h.1, h.2.alloc o⟩
theorem OwnG.base {w : World} {base base' : Nat} {A : Option Addr} {n c : Nat} {xs : List α} (h : OwnG K w base A n c xs) (hB : base' ≤ base) : OwnG K w base' A n c xs := by
  refine ⟨h.1, h.2.1, ?_⟩
  rcases h.2.2 with h0 | ⟨g, cap, cur, hv, hg, r⟩
  · exact .inl h0
  · exact .inr ⟨g, cap, cur, hv, Nat.le_trans hB hg, r⟩
theorem OwnG.cap {w : World} {base : Nat} {A : Option Addr} {n c : Nat} {xs : List α} (h : OwnG K w base A n c xs) : n ≤ c := by
  rcases h.2.2 with ⟨_, h0⟩ | ⟨g, cap, cur, e, _, _, hcp, _⟩
  · omega
  · injection e with e1 e2 e3
    omega
/-- a row of one's own stays if its block does -/
theorem OwnG.keep {w w' : World} {base : Nat} {A : Option Addr} {n c : Nat} {xs : List α} (h : OwnG K w base A n c xs) (hk : ∀ k, (Value.slice A n c).ownBlock = some k → w'.heap[k]? = w.heap[k]?) : OwnG K w' base A n c xs := by
  refine ⟨h.1, h.2.1, ?_⟩
  rcases h.2.2 with h0 | ⟨g, cap, cur, hv, hg, hh, r⟩
  · exact .inl h0
  · refine .inr ⟨g, cap, cur, hv, hg, ?_, r⟩
    rw [← hh]
    exact hk g (by rw [hv]; rfl)
variable (K)
theorem own_newG (w : World) (base g : Nat) (hg : g = w.heap.size) (hb : base ≤ w.heap.size) : OwnG K (w.alloc (.cells #[] K.T)) base (some ⟨g, 0, none⟩) 0 0 [] := by
  subst hg
  exact ⟨rfl, by simp [flat], .inr ⟨w.heap.size, 0, #[], rfl, hb, heap_alloc_new w _, Nat.le_refl _, by simp, by simp, by simp [flat]⟩⟩
theorem own_noneG (w : World) (base : Nat) : OwnG K w base none 0 0 [] := ⟨rfl, by simp [flat], .inl ⟨rfl, rfl⟩⟩
variable {K}
theorem run_appG_any (ty : TypeId) (w : World) (base : Nat) (A0 : Option Addr) (n0 c0 : Nat) (xs0 : List α) (hown : OwnG K w base A0 n0 c0 xs0) (ad : Addr) (m c : Nat) (xs : List α) (hm : m = xs.length)
    (hc : ∀ j u, (flat K xs)[j]? = some u → w.cell? (ad.add j) = some u) (hb : (n0 + m) * K.bytes ≤ 140737488355328) (hbase : base ≤ w.heap.size) :
    ∃ A' c' w', (Builtin.append_ #[K.S, K.S] ty #[.slice A0 n0 c0, .slice (some ad) m c]).run Try.prog w = .ok (.slice A' (n0 + m) c') w' ∧ OwnG K w' base A' (n0 + m) c' (xs0 ++ xs) ∧ Below base w w' := by
  obtain ⟨i0, hi, hz0, hz1, hz2⟩ := info_parts K.info
  have hbig : n0 + m ≤ 140737488355328 := Nat.le_trans (Nat.le_mul_of_pos_right _ K.bpos) hb
  obtain ⟨v', w', hrun, ho, hg, _⟩ := run_append_own (P := Try.prog) _ base K.S ty K.T i0 _ K.k K.bytes K.und hi hz0 hz1 hz2 K.zs K.kpos _ n0 (flat K xs0) hown.2 ad m c (flat K xs) (by rw [flat_len, hm])
    hc (flat_one K xs) (by unfold maxLen; omega) hb hbase
  have hbl : Below base w w' := (Below.refl _ _).grown hg hbase (fun k hk => (hown.2.lt k hk).1)
  have hfl : flat K xs0 ++ flat K xs = flat K (xs0 ++ xs) := by unfold flat; rw [List.flatMap_append]
  rw [hfl] at ho
  have hlen : n0 + m = (xs0 ++ xs).length := by rw [List.length_append, hown.1, hm]
  rcases ho.2 with ⟨rfl, h0⟩ | ⟨g, cap, cur, rfl, _⟩
  · rw [h0] at ho hlen ⊢
    exact ⟨none, 0, w', hrun, ⟨hlen, ho⟩, hbl⟩
  · exact ⟨_, _, w', hrun, ⟨hlen, ho⟩, hbl⟩
/-- append onto a row of the call's own: the source nil, empty or not -/
theorem run_appG (ty : TypeId) (w : World) (base : Nat) (A0 : Option Addr) (n0 c0 : Nat) (xs0 : List α) (hown : OwnG K w base A0 n0 c0 xs0) (B : Nat) (A : Option Addr) (m c : Nat) (xs : List α) (hm : m = xs.length)
    (hr : Rs K w B A xs) (hb : (n0 + m) * K.bytes ≤ 140737488355328) (hbase : base ≤ w.heap.size) :
    ∃ A' c' w', (Builtin.append_ #[K.S, K.S] ty #[.slice A0 n0 c0, .slice A m c]).run Try.prog w = .ok (.slice A' (n0 + m) c') w' ∧ OwnG K w' base A' (n0 + m) c' (xs0 ++ xs) ∧ Below base w w' := by
  rcases Nat.eq_zero_or_pos xs.length with h0 | h0
  · have hn : xs = [] := List.eq_nil_of_length_eq_zero h0
    subst hn
    have hm0 : m = 0 := by simpa using hm
    subst hm0
    cases A with
    | none =>
      obtain ⟨i0, hi, hz0, hz1, hz2⟩ := info_parts K.info
      refine ⟨A0, c0, w, ?_, by simpa using hown, Below.refl _ _⟩
      rcases hown.2.2 with ⟨hv, hnn⟩ | ⟨g, cap, cur, hv, _, _, hnc, _⟩
      · injection hv with h1 h2 h3
        subst h1
        subst h3
        subst hnn
        simp [Builtin.append_, run_underlying K.und, sizeOf, typeInfo, hi, Builtin.lenOf, Builtin.firstCells]
      · injection hv with h1 h2 h3
        subst h1
        subst h3
        simp [Builtin.append_, run_underlying K.und, sizeOf, typeInfo, hi, Builtin.lenOf, Builtin.firstCells, hnc, storeCells]
    | some ad => exact run_appG_any ty w base A0 n0 c0 xs0 hown ad 0 c [] rfl (fun j u hu => by simp [flat] at hu) hb hbase
  · obtain ⟨b, o, rfl, _, hc⟩ := hr h0
    exact run_appG_any ty w base A0 n0 c0 xs0 hown ⟨b, o, none⟩ m c xs hm (fun j u hu => by
      rw [add_at]
      obtain ⟨k, i, v, hv, hi, rfl, h⟩ := flat_get K xs j u hu
      rw [← Nat.add_assoc]
      exact hc k v hv i u h) hb hbase
theorem op_appG {w : World} {o : Oper} {a : Act} {Kn : Act → World → Prop} {Q : Exit → Act → World → Prop} (s x : Operand)
    (ho : o.op = .call { callee := .builtin .append, args := #[s, x], argTypes := #[K.S, K.S] })
    (base : Nat) (A0 : Option Addr) (n0 c0 : Nat) (xs0 : List α) (hs : a.eval s = .slice A0 n0 c0) (hown : OwnG K w base A0 n0 c0 xs0)
    (B : Nat) (A : Option Addr) (m c : Nat) (xs : List α) (hx : a.eval x = .slice A m c) (hm : m = xs.length)
    (hr : Rs K w B A xs) (hb : (n0 + m) * K.bytes ≤ 140737488355328) (hbase : base ≤ w.heap.size)
    (h : ∀ A' c' w', OwnG K w' base A' (n0 + m) c' (xs0 ++ xs) → Below base w w' → Kn (a.put o.dst (.slice A' (n0 + m) c')) w') : o.wp Try.prog a w Kn Q := by
  obtain ⟨A', c', w', hrun, h2, h3⟩ := run_appG o.type w base A0 n0 c0 xs0 hown B A m c xs hm hr hb hbase
  unfold Oper.wp execOp
  simp only [ho, resolve, invoke, builtin, Sem.run_bind, Sem.run_pure, Result.andThen_ok, List.map_toArray, List.map_cons, List.map_nil, hs, hx, hrun]
  exact h A' c' w' h2 h3
theorem wp_appG {w : World} {ops : Array Oper} {rest : List Oper} {o : Oper} {a : Act} {Q : Exit → Act → World → Prop} (hgd : o.guard = none) (s x : Operand)
    (ho : o.op = .call { callee := .builtin .append, args := #[s, x], argTypes := #[K.S, K.S] })
    (base : Nat) (A0 : Option Addr) (n0 c0 : Nat) (xs0 : List α) (hs : a.eval s = .slice A0 n0 c0) (hown : OwnG K w base A0 n0 c0 xs0)
    (B : Nat) (A : Option Addr) (m c : Nat) (xs : List α) (hx : a.eval x = .slice A m c) (hm : m = xs.length)
    (hr : Rs K w B A xs) (hb : (n0 + m) * K.bytes ≤ 140737488355328) (hbase : base ≤ w.heap.size)
    (h : ∀ A' c' w', OwnG K w' base A' (n0 + m) c' (xs0 ++ xs) → Below base w w' → wpList Try.prog ops Q rest (a.put o.dst (.slice A' (n0 + m) c')) w') : wpList Try.prog ops Q (o :: rest) a w :=
  wpList_plain hgd fun _ hK => op_appG s x ho base A0 n0 c0 xs0 hs hown B A m c xs hx hm hr hb hbase fun A' c' w' h1 h2 => hK _ _ (h A' c' w' h1 h2)
/-- append([]T{}, x...): a copy -/
theorem op_copyG {o : Oper} {a : Act} {Kn : Act → World → Prop} {Q : Exit → Act → World → Prop} (s x : Operand)
    (ho : o.op = .call { callee := .builtin .append, args := #[s, x], argTypes := #[K.S, K.S] })
    (w0 : World) (hs : a.eval s = .slice (some ⟨w0.heap.size, 0, none⟩) 0 0) (B : Nat) (A : Option Addr) (m c : Nat) (xs : List α) (hx : a.eval x = .slice A m c) (hm : m = xs.length) (hr : Rs K w0 B A xs) (hB : B ≤ w0.heap.size) (hb : m * K.bytes ≤ 140737488355328)
    (h : ∀ A' c' w', OwnG K w' w0.heap.size A' m c' xs → Below w0.heap.size w0 w' → Kn (a.put o.dst (.slice A' m c')) w') : o.wp Try.prog a (w0.alloc (.cells #[] K.T)) Kn Q := by
  refine op_appG s x ho w0.heap.size _ 0 0 [] hs (own_newG K w0 _ _ rfl (Nat.le_refl _)) B A m c xs hx hm (hr.below (bal (Below.refl _ _) hB _)) (by rw [Nat.zero_add]; exact hb) (by simp) fun A' c' w' h1 h2 => ?_
  rw [Nat.zero_add] at h1 ⊢
  exact h A' c' w' h1 ((bal (Below.refl _ _) (Nat.le_refl _) _).trans h2)
theorem wp_copyG {ops : Array Oper} {rest : List Oper} {o : Oper} {a : Act} {Q : Exit → Act → World → Prop} (hgd : o.guard = none) (s x : Operand)
    (ho : o.op = .call { callee := .builtin .append, args := #[s, x], argTypes := #[K.S, K.S] })
    (w0 : World) (hs : a.eval s = .slice (some ⟨w0.heap.size, 0, none⟩) 0 0) (B : Nat) (A : Option Addr) (m c : Nat) (xs : List α) (hx : a.eval x = .slice A m c) (hm : m = xs.length) (hr : Rs K w0 B A xs) (hB : B ≤ w0.heap.size) (hb : m * K.bytes ≤ 140737488355328)
    (h : ∀ A' c' w', OwnG K w' w0.heap.size A' m c' xs → Below w0.heap.size w0 w' → wpList Try.prog ops Q rest (a.put o.dst (.slice A' m c')) w') : wpList Try.prog ops Q (o :: rest) a (w0.alloc (.cells #[] K.T)) :=
  wpList_plain hgd fun _ hK => op_copyG s x ho w0 hs B A m c xs hx hm hr hB hb fun A' c' w' h1 h2 => hK _ _ (h A' c' w' h1 h2)
end Rg
end Go.Proofs.Ytldfccllpnplmaa

namespace Go.Proofs.Ytldfccllpnplmaa.Lgw
set_option maxRecDepth 20000
open Go.RowKit
open Bk Lg
open Tgw (hat hbe)
open Rg (bal)

def cellsR (r : R) : List Value := [.int .i64 r.kind, .int .i64 r.va, .int .i64 r.vd, .int .i64 r.cn, .int .i64 r.ca, .int .i64 r.cd, .int .i64 r.e.key, .int .i64 r.e.num, .int .i64 r.e.node, .float .f64 r.e.val, .int .i64 r.n]
/-- a record as a value -/
def rvv (r : R) : Value := .agg #[.int .i64 r.kind, .int .i64 r.va, .int .i64 r.vd, .int .i64 r.cn, .int .i64 r.ca, .int .i64 r.cd, .int .i64 r.e.key, .int .i64 r.e.num, .int .i64 r.e.node, .float .f64 r.e.val, .int .i64 r.n]
section
variable {w : World} {g : Nat} {r : R}
end
/-- the cells of the record at an address, one by one -/
def Elv (w : World) (b o : Nat) (r : R) : Prop := w.cell? ⟨b, o, none⟩ = some (.int .i64 r.kind) ∧ w.cell? ⟨b, o + 1, none⟩ = some (.int .i64 r.va) ∧ w.cell? ⟨b, o + 2, none⟩ = some (.int .i64 r.vd) ∧ w.cell? ⟨b, o + 3, none⟩ = some (.int .i64 r.cn) ∧ w.cell? ⟨b, o + 4, none⟩ = some (.int .i64 r.ca) ∧ w.cell? ⟨b, o + 5, none⟩ = some (.int .i64 r.cd) ∧ w.cell? ⟨b, o + 6, none⟩ = some (.int .i64 r.e.key) ∧ w.cell? ⟨b, o + 7, none⟩ = some (.int .i64 r.e.num) ∧ w.cell? ⟨b, o + 8, none⟩ = some (.int .i64 r.e.node) ∧ w.cell? ⟨b, o + 9, none⟩ = some (.float .f64 r.e.val) ∧ w.cell? ⟨b, o + 10, none⟩ = some (.int .i64 r.n)
theorem store_flt (a : Addr) (m : Mode) (w : World) (n : Nat) : (store a (.float .f64 n) m).run Try.prog w = stored Try.prog w a (.float .f64 n) m := run_store _ w a _ m rfl
theorem ret_bool {a b : Bool} (h : a = b) : Ending.returned (.bool a) = .returned (.bool b) := by rw [h]
end Go.Proofs.Ytldfccllpnplmaa.Lgw

namespace Go.Proofs.Ytldfccllpnplmaa.Lgw
set_option maxRecDepth 20000
open Go.RowKit
open Bk Lg
open Tgw (hat hbe)
open Rg (bal)

theorem not_alike {x y : R} (h : ¬ (x.kind = y.kind ∧ x.va = y.va ∧ x.vd = y.vd ∧ x.cn = y.cn ∧ x.ca = y.ca ∧ x.cd = y.cd ∧ x.n = y.n)) : alikeR x y = false := by
  rw [Bool.eq_false_iff]
  intro h1
  rw [alikeR_iff] at h1
  omega
theorem is_alike {x y : R} (h : x.kind = y.kind ∧ x.va = y.va ∧ x.vd = y.vd ∧ x.cn = y.cn ∧ x.ca = y.ca ∧ x.cd = y.cd ∧ x.n = y.n) : alikeR x y = alike x.e y.e := by
  refine Bool.eq_iff_iff.2 ?_
  rw [alikeR_iff]
  constructor
  · intro h1; exact h1.2.2.2.2.2.2.2
  · intro h1; exact ⟨h.1, h.2.1, h.2.2.1, h.2.2.2.1, h.2.2.2.2.1, h.2.2.2.2.2.1, h.2.2.2.2.2.2, h1⟩
theorem sameR_false (es fs : List R) (i : Nat) (x y : R) (hx : es[i]? = some x) (hy : fs[i]? = some y) (h : alikeR x y = false) : sameR es fs = false := by
  rw [← Bool.not_eq_true, sameR_iff]
  rintro ⟨_, h2⟩
  rw [h2 i x y hx hy] at h
  cases h
end Go.Proofs.Ytldfccllpnplmaa.Lgw

namespace Go.Proofs.Ytldfccllpnplmaa.Lgw
set_option maxRecDepth 20000
open Go.RowKit
open Bk Lg
open Tgw (hat hbe)
open Rg (bal)
open Dkw (cell_block)

theorem rv_right (a d : Int) : Chgw.rightB a d = rv a d := by
  unfold Chgw.rightB rv
  rfl
theorem some1_val (r : R) (h : rv r.ca r.cd = true) : (!r.ca == 0 || !r.cd == 0) = some1 r := by
  unfold some1
  rw [h]
  by_cases h1 : r.ca = 0 <;> by_cases h2 : r.cd = 0 <;> simp [h1, h2]
theorem zal (a d c x y : Int) (e : E) (n : Int) : alikeR ⟨0, a, d, c, x, y, e, n⟩ zeroR = (decide (a = 0 ∧ d = 0) && (decide (c = 0 ∧ x = 0 ∧ y = 0) && (decide (n = 0) && ez e))) := by
  unfold alikeR zeroR ez
  simp only [decide_true, Bool.true_and]
theorem ez0 : ez (zero 0) = true := by decide +kernel
theorem right1 (r : R) (h : r.kind = 1) : rightR r = (rv r.va r.vd && (okE r.e && alikeR ⟨0, 0, 0, r.cn, r.ca, r.cd, zero 0, r.n⟩ zeroR)) := by
  unfold rightR
  rw [if_pos h, zal, ez0]
  simp [cz, nz]
theorem right2 (r : R) (h : r.kind = 2) : rightR r = (rv r.va r.vd && (some1 r && (decide (0 ≤ r.cn ∧ r.cn ≤ 5) && alikeR ⟨0, 0, 0, 0, 0, 0, r.e, r.n⟩ zeroR))) := by
  unfold rightR
  rw [if_neg (by omega), if_pos h, zal]
  simp [nz]
theorem right3 (r : R) (h : r.kind = 3) : rightR r = (rv r.va r.vd && alikeR ⟨0, 0, 0, r.cn, r.ca, r.cd, r.e, r.n⟩ zeroR) := by
  unfold rightR
  rw [if_neg (by omega), if_neg (by omega), if_pos h, zal]
  simp [cz, nz]
theorem right4 (r : R) (h : r.kind = 4 ∨ r.kind = 6) : rightR r = (nok r && alikeR ⟨0, r.va, r.vd, r.cn, r.ca, r.cd, r.e, 0⟩ zeroR) := by
  unfold rightR
  rw [if_neg (by omega), if_neg (by omega), if_neg (by omega), if_pos h, zal]
  simp [vz, cz]
theorem right5 (r : R) (h : r.kind = 5) : rightR r = (rv r.va r.vd && (some1 r && alikeR ⟨0, 0, 0, r.cn, 0, 0, r.e, r.n⟩ zeroR)) := by
  unfold rightR
  rw [if_neg (by omega), if_neg (by omega), if_neg (by omega), if_neg (by omega), if_pos h, zal]
  simp [nz]
theorem right0 (r : R) (h : ¬ (1 ≤ r.kind ∧ r.kind ≤ 6)) : rightR r = false := by
  unfold rightR
  rw [if_neg (by omega), if_neg (by omega), if_neg (by omega), if_neg (by omega), if_neg (by omega)]
theorem chk1 (e : E) : Bkw.chkN [e] = if okE e = true then 0 else 71 := by
  unfold Bkw.chkN isBook chk chk
  by_cases h : okE e = true
  · have h2 := (okE_iff e).1 h
    rw [if_pos h, h, decide_eq_true (by omega)]
    rfl
  · have h3 : okE e = false := by simpa using h
    rw [if_neg h, h3]
    rfl
theorem u0 : Flt.U64 zeroR.e.val := by show (0 : Nat) < _; decide
end Go.Proofs.Ytldfccllpnplmaa.Lgw

namespace Go.Proofs.Ytldfccllpnplmaa.Lgw
set_option maxRecDepth 20000
open Go.RowKit
open Bk Lg Wire
open Tgw (hat hbe)
open Rg (bal)

theorem rd_row (w : World) (xs : List Value) (T : TypeId) : Rd (w.alloc (.cells xs.toArray T)) (w.heap.size + 1) (some ⟨w.heap.size, 0, none⟩) xs := by
  intro _
  refine ⟨_, _, rfl, by omega, fun j u hu => ?_⟩
  rw [cell_of_row _ _ _ _ _ _ (heap_alloc_new w _)]
  simpa using hu
theorem right_ranges (r : R) (h : rightR r = true) : ∃ a d x y : Nat, r.va = a ∧ r.vd = d ∧ r.ca = x ∧ r.cd = y ∧ a < 64 ∧ d < 64 ∧ x < 64 ∧ y < 64 := by
  refine ⟨r.va.toNat, r.vd.toNat, r.ca.toNat, r.cd.toNat, ?_⟩
  rcases right_cases r h with ⟨h1, h2, h3, h4, h5⟩ | ⟨h1, h2, h3, h4, h5, h6, h7⟩ | ⟨h1, h2, h3, h4, h5⟩ | ⟨h1, h2, h3, h4, h5⟩ | ⟨h1, h2, h3, h4, h5, h6, h7⟩ <;> omega
/-- numbers are answered -/
def RetNs (w : World) (ns : List Nat) (e : Ending) (w' : World) : Prop := ∃ A n c, e = .returned (.slice A n c) ∧ n = ns.length ∧ n ≤ c ∧ Rd w' w'.heap.size A (ns.map N64) ∧ Below w.heap.size w w'
theorem retNs_row {w wq : World} {xs : List Value} {ns : List Nat} {n : Nat} (hb : Below w.heap.size w wq) (hn : n = ns.length) (hx : xs = ns.map N64) (T : TypeId) : RetNs w ns (.returned (.slice (some ⟨wq.heap.size, 0, none⟩) n n)) (wq.alloc (.cells xs.toArray T)) :=
  ⟨_, _, _, rfl, hn, Nat.le_refl _, by rw [World.size_alloc, ← hx]; exact rd_row wq xs T, bal hb (Nat.le_refl _) _⟩
theorem wrapu (n : Nat) (h : n < 18446744073709551616) : IntKind.u64.wrap (n : Int) = n := by
  rw [IntKind.wrap_u64]
  omega
/-- a record's bytes and the error's number -/
def RetBy (w : World) (r : R) (e : Ending) (w' : World) : Prop :=
  Below w.heap.size w w' ∧ ((rightR r = false ∧ e = .returned (.tuple #[.slice none 0 0, .int .i64 91])) ∨ (rightR r = true ∧ ∃ A n c, e = .returned (.tuple #[.slice A n c, .int .i64 0]) ∧ Own w' w.heap.size A n c (bytesR r)))
end Go.Proofs.Ytldfccllpnplmaa.Lgw
