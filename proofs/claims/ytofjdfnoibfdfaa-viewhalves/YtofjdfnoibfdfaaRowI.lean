/- Slices of int: a row of the call's own, an append onto it, a copy. -/
import Derived.Test.YtofjdfnoibfdfaaMem
import Derived.BigQuiet
import Derived.Deep.QuietTactic
import Derived.WalkSpells
namespace Go.Proofs.Ytofjdfnoibfdfaa
open Go.RowKit

theorem I_one (ns : List Int) : ∀ u ∈ ns.map (Value.int .i64), u.oneCell' = true := by
  intro u hu
  obtain ⟨c, _, rfl⟩ := List.mem_map.1 hu
  rfl
theorem infoI : (Try.prog.info? 3).map (fun i => (i.zero, i.size, i.bytes)) = some (some (.int .i64 0), 1, 8) := by kernel_rfl

/-- the slice A holds the numbers bs, in a row of the call's own from block base on -/
def OwnI (w : World) (base : Nat) (A : Option Addr) (n c : Nat) (bs : List Int) : Prop := n = bs.length ∧ w.ownsRow base 3 1 (.slice A n c) n (bs.map (Value.int .i64))
/-- it returns a slice of its own with the numbers bs; below base nothing has turned -/
def RetOwnI (w : World) (base : Nat) (bs : List Int) (e : Ending) (w' : World) : Prop :=
  ∃ A n c, e = .returned (.slice A n c) ∧ OwnI w' base A n c bs ∧ Below base w w'
theorem OwnI.rd {w : World} {base : Nat} {A : Option Addr} {n c : Nat} {bs : List Int} (h : OwnI w base A n c bs) : Rd w w.heap.size A (bs.map (Value.int .i64)) := Rd.of_own h.2
theorem OwnI.cap {w : World} {base : Nat} {A : Option Addr} {n c : Nat} {bs : List Int} (h : OwnI w base A n c bs) : n ≤ c := by
  obtain ⟨A', c', e, h1, _⟩ := own_slice h.2
  injection e with e1 e2 e3
  omega
theorem OwnI.below {w w' : World} {base B : Nat} {A : Option Addr} {n c : Nat} {bs : List Int} (h : OwnI w base A n c bs) (hb : Below B w w') (hB : w.heap.size ≤ B) : OwnI w' base A n c bs := ⟨h.1, own_below h.2 hb hB⟩
theorem OwnI.base {w : World} {base base' : Nat} {A : Option Addr} {n c : Nat} {bs : List Int} (h : OwnI w base A n c bs) (hB : base' ≤ base) : OwnI w base' A n c bs := ⟨h.1, own_base h.2 hB⟩
theorem OwnI.alloc {w : World} {base : Nat} {A : Option Addr} {n c : Nat} {bs : List Int} (h : OwnI w base A n c bs) (o : Obj) : OwnI (w.alloc o) base A n c bs := ⟨h.1, h.2.alloc o⟩
theorem OwnI.len {w : World} {base : Nat} {A : Option Addr} {n n' c : Nat} {bs : List Int} (h : OwnI w base A n c bs) (e : n = n') : OwnI w base A n' c bs := e ▸ h
theorem ownI_new (w : World) (base : Nat) (bs : List Int) (hb : base ≤ w.heap.size) (hm : bs.length ≤ maxLen) : OwnI (w.alloc (.cells (bs.map (Value.int .i64)).toArray 3)) base (some ⟨w.heap.size, 0, none⟩) bs.length bs.length bs :=
  ⟨rfl, by have := own_lit w base 3 (bs.map (Value.int .i64)) hb (by simpa using hm); simpa using this⟩
theorem ownI_at (w : World) (base g : Nat) (bs : List Int) (hg : g = w.heap.size) (hb : base ≤ w.heap.size) (hm : bs.length ≤ maxLen) : OwnI (w.alloc (.cells (bs.map (Value.int .i64)).toArray 3)) base (some ⟨g, 0, none⟩) bs.length bs.length bs := by
  subst hg
  exact ownI_new w base bs hb hm
theorem ownI_none (w : World) (base : Nat) : OwnI w base none 0 0 [] := ⟨rfl, World.ownsRow_nil _ _ _ _⟩
theorem rdI_new (w : World) (xs : List Value) : Rd (w.alloc (.cells xs.toArray 3)) (w.heap.size + 1) (some ⟨w.heap.size, 0, none⟩) xs := by
  intro _
  refine ⟨_, _, rfl, by omega, fun j u hu => ?_⟩
  rw [cell_of_row _ _ _ _ _ _ (heap_alloc_new w _)]
  simpa using hu

theorem op_appI {w : World} {o : Oper} {a : Act} {K : Act → World → Prop} {Q : Exit → Act → World → Prop} (s x : Operand)
    (ho : o.op = .call { callee := .builtin .append, args := #[s, x], argTypes := #[28, 28] })
    (base : Nat) (A0 : Option Addr) (n0 c0 : Nat) (bs0 : List Int) (hs : a.eval s = .slice A0 n0 c0) (hown : OwnI w base A0 n0 c0 bs0)
    (B : Nat) (A : Option Addr) (m c : Nat) (news : List Int) (hx : a.eval x = .slice A m c) (hm : m = news.length) (hr : Rd w B A (news.map (Value.int .i64)))
    (hb : (n0 + m) * 8 ≤ 140737488355328) (hbase : base ≤ w.heap.size)
    (h : ∀ A' c' w', OwnI w' base A' (n0 + m) c' (bs0 ++ news) → Below base w w' → K (a.put o.dst (.slice A' (n0 + m) c')) w') : o.wp Try.prog a w K Q := by
  obtain ⟨i0, hi, hz0, hz1, hz2⟩ := info_parts infoI
  refine op_app s x 28 ho base 3 i0 (.int .i64 0) 8 Try.underlying28 hi hz0 hz1 hz2 rfl (.slice A0 n0 c0) n0 (bs0.map (Value.int .i64)) hs hown.2 B A m c (news.map (Value.int .i64)) hx (by simpa using hm) hr (I_one news)
    (by unfold maxLen; omega) hb hbase fun A' c' w' h1 h2 _ => h A' c' w' ⟨?_, ?_⟩ h2
  · rw [List.length_append, hown.1, hm]
  · rw [List.map_append]; exact h1
theorem wp_appI {w : World} {ops : Array Oper} {rest : List Oper} {o : Oper} {a : Act} {Q : Exit → Act → World → Prop} (hgd : o.guard = none) (s x : Operand)
    (ho : o.op = .call { callee := .builtin .append, args := #[s, x], argTypes := #[28, 28] })
    (base : Nat) (A0 : Option Addr) (n0 c0 : Nat) (bs0 : List Int) (hs : a.eval s = .slice A0 n0 c0) (hown : OwnI w base A0 n0 c0 bs0)
    (B : Nat) (A : Option Addr) (m c : Nat) (news : List Int) (hx : a.eval x = .slice A m c) (hm : m = news.length) (hr : Rd w B A (news.map (Value.int .i64)))
    (hb : (n0 + m) * 8 ≤ 140737488355328) (hbase : base ≤ w.heap.size)
    (h : ∀ A' c' w', OwnI w' base A' (n0 + m) c' (bs0 ++ news) → Below base w w' → wpList Try.prog ops Q rest (a.put o.dst (.slice A' (n0 + m) c')) w') : wpList Try.prog ops Q (o :: rest) a w :=
  wpList_plain hgd fun _ hK => op_appI s x ho base A0 n0 c0 bs0 hs hown B A m c news hx hm hr hb hbase fun A' c' w' h1 h2 => hK _ _ (h A' c' w' h1 h2)

/-- append([]int{}, x...): a copy -/
theorem op_copyI {o : Oper} {a : Act} {K : Act → World → Prop} {Q : Exit → Act → World → Prop} (s x : Operand)
    (ho : o.op = .call { callee := .builtin .append, args := #[s, x], argTypes := #[28, 28] })
    (w0 : World) (hs : a.eval s = .slice (some ⟨w0.heap.size, 0, none⟩) 0 0)
    (B : Nat) (A : Option Addr) (m c : Nat) (news : List Int) (hx : a.eval x = .slice A m c) (hm : m = news.length) (hr : Rd w0 B A (news.map (Value.int .i64))) (hB : B ≤ w0.heap.size) (hb : m * 8 ≤ 140737488355328)
    (h : ∀ A' c' w', OwnI w' w0.heap.size A' m c' news → Below w0.heap.size w0 w' → K (a.put o.dst (.slice A' m c')) w') : o.wp Try.prog a (w0.alloc (.cells #[] 3)) K Q := by
  refine op_appI s x ho w0.heap.size _ 0 0 [] hs (ownI_new w0 _ [] (Nat.le_refl _) (by simp)) B A m c news hx hm (hr.below ((Below.refl _ _).alloc hB _)) (by omega) (by simp) fun A' c' w' h1 h2 => ?_
  rw [Nat.zero_add] at h1 ⊢
  exact h A' c' w' h1 (((Below.refl _ _).alloc (Nat.le_refl _) _).trans h2)
theorem wp_copyI {ops : Array Oper} {rest : List Oper} {o : Oper} {a : Act} {Q : Exit → Act → World → Prop} (hgd : o.guard = none) (s x : Operand)
    (ho : o.op = .call { callee := .builtin .append, args := #[s, x], argTypes := #[28, 28] })
    (w0 : World) (hs : a.eval s = .slice (some ⟨w0.heap.size, 0, none⟩) 0 0)
    (B : Nat) (A : Option Addr) (m c : Nat) (news : List Int) (hx : a.eval x = .slice A m c) (hm : m = news.length) (hr : Rd w0 B A (news.map (Value.int .i64))) (hB : B ≤ w0.heap.size) (hb : m * 8 ≤ 140737488355328)
    (h : ∀ A' c' w', OwnI w' w0.heap.size A' m c' news → Below w0.heap.size w0 w' → wpList Try.prog ops Q rest (a.put o.dst (.slice A' m c')) w') : wpList Try.prog ops Q (o :: rest) a (w0.alloc (.cells #[] 3)) :=
  wpList_plain hgd fun _ hK => op_copyI s x ho w0 hs B A m c news hx hm hr hB hb fun A' c' w' h1 h2 => hK _ _ (h A' c' w' h1 h2)
/-- the same, guarded, where the guard says yes -/
theorem wp_copyI_g {ops : Array Oper} {rest : List Oper} {o : Oper} {a : Act} {Q : Exit → Act → World → Prop} (hgd : Region.wanted o (yielded ops a.tmps) = true) (s x : Operand)
    (ho : o.op = .call { callee := .builtin .append, args := #[s, x], argTypes := #[28, 28] })
    (w0 : World) (hs : a.eval s = .slice (some ⟨w0.heap.size, 0, none⟩) 0 0)
    (B : Nat) (A : Option Addr) (m c : Nat) (news : List Int) (hx : a.eval x = .slice A m c) (hm : m = news.length) (hr : Rd w0 B A (news.map (Value.int .i64))) (hB : B ≤ w0.heap.size) (hb : m * 8 ≤ 140737488355328)
    (h : ∀ A' c' w', OwnI w' w0.heap.size A' m c' news → Below w0.heap.size w0 w' → wpList Try.prog ops Q rest (a.put o.dst (.slice A' m c')) w') : wpList Try.prog ops Q (o :: rest) a (w0.alloc (.cells #[] 3)) :=
  BigFrame.wpList_want hgd fun _ hK => op_copyI s x ho w0 hs B A m c news hx hm hr hB hb fun A' c' w' h1 h2 => hK _ _ (h A' c' w' h1 h2)

end Go.Proofs.Ytofjdfnoibfdfaa
