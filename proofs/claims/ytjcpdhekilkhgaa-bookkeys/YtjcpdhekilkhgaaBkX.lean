/- Words for slices of entries as the walks of layer 7 hand them on; the document's answers in those words. -/
import Derived.Test.YtjcpdhekilkhgaaBkV
import Derived.Test.YtjcpdhekilkhgaaBkQ
namespace Go.Proofs.Ytjcpdhekilkhgaa.Bkw
open Go.RowKit
open Tg Bk
open Tgw (bal hat hbe ret_bool tv)

/-- the slice A holds these entries, all that is now in memory -/
def So (w : World) (A : Option Addr) (n c : Nat) (es : List E) : Prop := n = es.length ∧ n ≤ c ∧ n * 32 ≤ 140737488355328 ∧ (∀ e ∈ es, WfE e) ∧ Re w w.heap.size A es
theorem So.all {w w' : World} {A : Option Addr} {n c : Nat} {es : List E} (h : So w A n c es) (hb : Below w.heap.size w w') : So w' A n c es :=
  ⟨h.1, h.2.1, h.2.2.1, h.2.2.2.1, (h.2.2.2.2.below hb).more hb.size⟩
theorem So.alloc {w : World} {A : Option Addr} {n c : Nat} {es : List E} (h : So w A n c es) (o : Obj) : So (w.alloc o) A n c es := h.all (bal (Below.refl _ _) (Nat.le_refl _) o)
theorem So.nil (w : World) : So w none 0 0 [] := ⟨rfl, Nat.le_refl _, by omega, by simp, Re.nil⟩
theorem So.u64 {w : World} {A : Option Addr} {n c : Nat} {es : List E} (h : So w A n c es) : ∀ e ∈ es, Flt.U64 e.val := fun e he => (h.2.2.2.1 e he).2.2.2
/-- a slice of entries is answered -/
def RetSl (w : World) (l : List E) (e : Ending) (w' : World) : Prop := ∃ A n c, e = .returned (.slice A n c) ∧ So w' A n c l ∧ Below w.heap.size w w'
theorem retSl_own {w : World} {l : List E} (hl : l.length * 32 ≤ 140737488355328) (hw : ∀ e ∈ l, WfE e) {e : Ending} {w' : World} (h : RetOwnE w w.heap.size l e w') : RetSl w l e w' := by
  obtain ⟨A, n, c, he, ho, hb⟩ := h
  exact ⟨A, n, c, he, ⟨ho.1, ho.cap, by rw [ho.1]; exact hl, hw, ho.re⟩, hb⟩
theorem op_copyE {o : Oper} {a : Act} {K : Act → World → Prop} {Q : Exit → Act → World → Prop} (s x : Operand)
    (ho : o.op = .call { callee := .builtin .append, args := #[s, x], argTypes := #[32, 32] })
    (w0 : World) (hs : a.eval s = .slice (some ⟨w0.heap.size, 0, none⟩) 0 0) (A : Option Addr) (m c : Nat) (es : List E) (hx : a.eval x = .slice A m c) (hr : So w0 A m c es)
    (h : ∀ A' c' w', So w' A' m c' es → Below w0.heap.size w0 w' → K (a.put o.dst (.slice A' m c')) w') : o.wp Try.prog a (w0.alloc (.cells #[] 26)) K Q := by
  obtain ⟨A', c', w', hrun, h2, h3, h4⟩ := run_copyE o.type w0 _ A m c es hr.1 hr.2.2.2.2 (Nat.le_refl _) hr.2.2.1
  unfold Oper.wp execOp
  simp only [ho, resolve, invoke, builtin, Sem.run_bind, Sem.run_pure, Result.andThen_ok, List.map_toArray, List.map_cons, List.map_nil, hs, hx, hrun]
  exact h A' c' w' ⟨hr.1, h4, hr.2.2.1, hr.2.2.2.1, h2⟩ h3
theorem wp_copyE {ops : Array Oper} {rest : List Oper} {o : Oper} {a : Act} {Q : Exit → Act → World → Prop} (hgd : o.guard = none) (s x : Operand)
    (ho : o.op = .call { callee := .builtin .append, args := #[s, x], argTypes := #[32, 32] })
    (w0 : World) (hs : a.eval s = .slice (some ⟨w0.heap.size, 0, none⟩) 0 0) (A : Option Addr) (m c : Nat) (es : List E) (hx : a.eval x = .slice A m c) (hr : So w0 A m c es)
    (h : ∀ A' c' w', So w' A' m c' es → Below w0.heap.size w0 w' → wpList Try.prog ops Q rest (a.put o.dst (.slice A' m c')) w') : wpList Try.prog ops Q (o :: rest) a (w0.alloc (.cells #[] 26)) :=
  wpList_plain hgd fun _ hK => op_copyE s x ho w0 hs A m c es hx hr fun A' c' w' h1 h2 => hK _ _ (h A' c' w' h1 h2)
theorem check_o (A : Option Addr) (n c : Nat) (es : List E) (w : World) (h : So w A n c es) : Calls Try.prog 12 #[.slice A n c] w fun e w' => e = .returned (.int .i64 (chkN es)) ∧ Below w.heap.size w w' :=
  check_r A n c es h.1 (by have := h.2.2.1; omega) _ w h.2.2.2.2 (Nat.le_refl _)
theorem get_o (A : Option Addr) (n c : Nat) (es : List E) (key : Int) (w : World) (h : So w A n c es) : Calls Try.prog 15 #[.slice A n c, .int .i64 key] w (RetE w (getF es key) (getN key)) :=
  get_r A n c es h.1 (by have := h.2.2.1; omega) key _ w h.2.2.2.2 (Nat.le_refl _)
theorem same_o (A : Option Addr) (n c : Nat) (es : List E) (A2 : Option Addr) (n2 c2 : Nat) (fs : List E) (w : World) (h : So w A n c es) (h2 : So w A2 n2 c2 fs) : Calls Try.prog 14 #[.slice A n c, .slice A2 n2 c2] w fun e w' => e = .returned (.bool (same es fs)) ∧ Below w.heap.size w w' :=
  same_r A n c es h.1 (by have := h.2.2.1; omega) h.u64 A2 n2 c2 fs h2.1 h2.u64 _ w h.2.2.2.2 h2.2.2.2.2 (Nat.le_refl _)
theorem within_o (A : Option Addr) (n c : Nat) (es : List E) (A2 : Option Addr) (n2 c2 : Nat) (fs : List E) (w : World) (h : So w A n c es) (h2 : So w A2 n2 c2 fs) : Calls Try.prog 22 #[.slice A n c, .slice A2 n2 c2] w fun e w' => e = .returned (.bool (within es fs)) ∧ Below w.heap.size w w' :=
  within_r A n c es h.1 (by have := h.2.2.1; omega) A2 n2 c2 fs h2.1 (by have := h2.2.2.1; omega) _ w h.2.2.2.2 h2.2.2.2.2 (Nat.le_refl _)
theorem wf_news (es fs : List E) (h : ∀ e ∈ fs, WfE e) : ∀ e ∈ news es fs, WfE e := fun e he => h e (news_mem es fs e he).1
theorem wf_merge (es fs : List E) (hb : isBook es = true) (hb2 : isBook fs = true) (h : ∀ e ∈ es, WfE e) (h2 : ∀ e ∈ fs, WfE e) : ∀ e ∈ merge es fs, WfE e := fun e he => by
  rcases merge_mem es fs hb hb2 e he with h' | h'
  · exact h e h'
  · exact h2 e h'
theorem news_o (A : Option Addr) (n c : Nat) (es : List E) (A2 : Option Addr) (n2 c2 : Nat) (fs : List E) (w : World) (h : So w A n c es) (h2 : So w A2 n2 c2 fs) : Calls Try.prog 20 #[.slice A n c, .slice A2 n2 c2] w (RetSl w (news es fs)) :=
  (news_r A n c es h.1 (by have := h.2.2.1; omega) A2 n2 c2 fs h2.1 h2.2.2.1 _ w h2.2.2.2.2 h.2.2.2.2 (Nat.le_refl _)).mono fun _ _ hr => retSl_own (by have := news_len es fs; have := h2.2.2.1; have := h2.1; omega) (wf_news es fs h2.2.2.2.1) hr
theorem merge_o (A : Option Addr) (n c : Nat) (es : List E) (A2 : Option Addr) (n2 c2 : Nat) (fs : List E) (w : World) (h : So w A n c es) (h2 : So w A2 n2 c2 fs) (hb : isBook es = true) (hb2 : isBook fs = true) : Calls Try.prog 19 #[.slice A n c, .slice A2 n2 c2] w (RetSl w (merge es fs)) :=
  (merge_r A n c es h.1 (by have := h.2.2.1; omega) A2 n2 c2 fs h2.1 (by have := h2.2.2.1; omega) _ w h.2.2.2.2 h2.2.2.2.2 (Nat.le_refl _)).mono fun _ _ hr => retSl_own (by have := mergeK_len es fs 4; unfold merge; omega) (wf_merge es fs hb hb2 h.2.2.2.1 h2.2.2.2.1) hr
theorem u64_find (es : List E) (key : Int) (h : ∀ e ∈ es, Flt.U64 e.val) : Flt.U64 (find es key).val := by
  rcases find_in es key with h1 | h1
  · exact h _ h1
  · rw [h1]; show (0 : Nat) < _; decide
theorem u64_get (es : List E) (key : Int) (h : ∀ e ∈ es, Flt.U64 e.val) : Flt.U64 (getF es key).val := by
  unfold getF
  split
  · exact u64_find es key h
  · show (0 : Nat) < _; decide
theorem i2_find (es : List E) (k : Int) (h : ∀ e ∈ es, WfE e) : I2 ((find es k).num, (find es k).node) := by
  rcases find_in es k with h1 | h1
  · exact ⟨(h _ h1).2.1, (h _ h1).2.2.1⟩
  · rw [h1]; unfold I2 I64 zero; simp
end Go.Proofs.Ytjcpdhekilkhgaa.Bkw
