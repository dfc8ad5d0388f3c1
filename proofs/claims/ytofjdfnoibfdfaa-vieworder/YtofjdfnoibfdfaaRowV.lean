/- A slice of views copied: append([]api.View{}, l...). -/
import Derived.Test.YtofjdfnoibfdfaaChgW
namespace Go.Proofs.Ytofjdfnoibfdfaa
open Go.RowKit
open Chg

theorem infoV : (Try.prog.info? 25).map (fun i => (i.zero, i.size, i.bytes)) = some (some (.agg #[.int .i64 0, .int .i64 0]), 2, 16) := by kernel_rfl
theorem add_at (b o j : Nat) : (⟨b, o, none⟩ : Addr).add j = ⟨b, o + j, none⟩ := by unfold Addr.add; split <;> simp_all
theorem flat_len (vs : List (Nat × Nat)) : (flat vs).length = vs.length * 2 := by
  induction vs with
  | nil => rfl
  | cons x l ih =>
    show (_ :: _ :: flat l).length = _
    simp only [List.length_cons, ih]
    omega
theorem flat_one (vs : List (Nat × Nat)) : ∀ u ∈ flat vs, u.oneCell' = true := by
  intro u hu
  obtain ⟨v, _, hv⟩ := List.mem_flatMap.1 hu
  simp only [List.mem_cons, List.not_mem_nil, or_false] at hv
  rcases hv with rfl | rfl <;> rfl
theorem flat_get (vs : List (Nat × Nat)) (j : Nat) (u : Value) (h : (flat vs)[j]? = some u) : ∃ (i : Nat) (v : Nat × Nat), vs[i]? = some v ∧ ((j = i * 2 ∧ u = .int .i64 (v.1 : Int)) ∨ (j = i * 2 + 1 ∧ u = .int .i64 (v.2 : Int))) := by
  have hj : j < vs.length * 2 := by
    rw [← flat_len]
    rcases Nat.lt_or_ge j (flat vs).length with h' | h'
    · exact h'
    · rw [List.getElem?_eq_none h'] at h; cases h
  have hi : j / 2 < vs.length := by omega
  have hv : vs[j / 2]? = some vs[j / 2] := List.getElem?_eq_getElem hi
  have hf := flat_at vs (j / 2) _ hv
  refine ⟨j / 2, _, hv, ?_⟩
  rcases Nat.mod_two_eq_zero_or_one j with h0 | h0
  · left
    have e : j = j / 2 * 2 := by omega
    rw [e, hf.1] at h
    exact ⟨e, (Option.some.inj h).symm⟩
  · right
    have e : j = j / 2 * 2 + 1 := by omega
    rw [e, hf.2] at h
    exact ⟨e, (Option.some.inj h).symm⟩
theorem run_copyV2 (ty : TypeId) (w0 : World) (B : Nat) (A : Option Addr) (m c : Nat) (vs : List (Nat × Nat)) (hm : m = vs.length) (hr : Rv w0 B A vs) (hB : B ≤ w0.heap.size) (hb : m * 16 ≤ 140737488355328) :
    ∃ A' c' w', (Builtin.append_ #[34, 34] ty #[.slice (some ⟨w0.heap.size, 0, none⟩) 0 0, .slice A m c]).run Try.prog (w0.alloc (.cells #[] 25)) = .ok (.slice A' m c') w' ∧ Rv w' w'.heap.size A' vs ∧ Below w0.heap.size w0 w' ∧ (0 < m → ∃ g cur, A' = some ⟨g, 0, none⟩ ∧ w0.heap.size ≤ g ∧ w'.heap[g]? = some (.cells cur 25)) := by
  obtain ⟨i0, hi, hz0, hz1, hz2⟩ := info_parts infoV
  have hown : (w0.alloc (.cells #[] 25)).ownsRow w0.heap.size 25 2 (.slice (some ⟨w0.heap.size, 0, none⟩) 0 0) 0 [] :=
    ⟨by simp, .inr ⟨w0.heap.size, 0, #[], rfl, Nat.le_refl _, heap_alloc_new w0 _, Nat.le_refl _, by simp, by simp, by simp⟩⟩
  have hal : Below w0.heap.size w0 (w0.alloc (.cells #[] 25)) := bal (Below.refl _ _) (Nat.le_refl _) _
  have key : ∀ ad : Addr, A = some ad → (∀ j u, (flat vs)[j]? = some u → (w0.alloc (.cells #[] 25)).cell? (ad.add j) = some u) →
      ∃ A' c' w', (Builtin.append_ #[34, 34] ty #[.slice (some ⟨w0.heap.size, 0, none⟩) 0 0, .slice A m c]).run Try.prog (w0.alloc (.cells #[] 25)) = .ok (.slice A' m c') w' ∧ Rv w' w'.heap.size A' vs ∧ Below w0.heap.size w0 w' ∧ (0 < m → ∃ g cur, A' = some ⟨g, 0, none⟩ ∧ w0.heap.size ≤ g ∧ w'.heap[g]? = some (.cells cur 25)) := by
    rintro ad rfl hc
    obtain ⟨v', w', hrun, ho, hg, _⟩ := run_append_own (P := Try.prog) _ w0.heap.size 34 ty 25 i0 _ 2 16 Try.underlying34 hi hz0 hz1 hz2 rfl (by omega) _ 0 [] hown ad m c (flat vs) (by rw [flat_len, hm]) hc (flat_one vs) (by unfold maxLen; omega) (by omega) (by simp)
    rw [Nat.zero_add, List.nil_append] at ho
    have hbl : Below w0.heap.size w0 w' := hal.trans ((Below.refl _ _).grown hg (by simp) (fun k hk => (hown.lt k hk).1))
    rcases ho.2 with ⟨rfl, h0⟩ | ⟨g, cap, cur, rfl, hbg, hh, _⟩
    · subst h0
      exact ⟨none, 0, w', hrun, fun h => by omega, hbl, fun h => by omega⟩
    · refine ⟨_, _, w', hrun, fun _ => ⟨g, 0, rfl, (ho.lt g rfl).2, fun j v hv => ?_⟩, hbl, fun _ => ⟨g, cur, rfl, hbg, hh⟩⟩
      have hf := flat_at vs j v hv
      have h1 := ho.cells (g := g) rfl _ _ hf.1
      have h2 := ho.cells (g := g) rfl _ _ hf.2
      rw [add_at] at h1 h2
      exact ⟨h1, h2⟩
  rcases Nat.eq_zero_or_pos vs.length with h0 | h0
  · have hn : vs = [] := List.eq_nil_of_length_eq_zero h0
    subst hn
    cases A with
    | some ad => exact key ad rfl (fun j u hu => by simp [flat] at hu)
    | none =>
      have hm0 : m = 0 := by simpa using hm
      subst hm0
      refine ⟨some ⟨w0.heap.size, 0, none⟩, 0, _, ?_, fun h => by simp at h, hal, fun h => by omega⟩
      simp [Builtin.append_, run_underlying Try.underlying34, sizeOf, typeInfo, hi, Builtin.lenOf, Builtin.firstCells, storeCells]
  · obtain ⟨b, o, e1, hbB, hc⟩ := hr h0
    refine key _ e1 (fun j u hu => ?_)
    rw [add_at]
    obtain ⟨i, v, hv, h⟩ := flat_get vs j u hu
    have hcv := hc i v hv
    rcases h with ⟨rfl, rfl⟩ | ⟨rfl, rfl⟩
    · exact (hal.cell (p := ⟨b, o + i * 2, none⟩) (by show b < _; omega)).trans hcv.1
    · exact (hal.cell (p := ⟨b, o + i * 2 + 1, none⟩) (by show b < _; omega)).trans hcv.2
theorem run_copyV (ty : TypeId) (w0 : World) (B : Nat) (A : Option Addr) (m c : Nat) (vs : List (Nat × Nat)) (hm : m = vs.length) (hr : Rv w0 B A vs) (hB : B ≤ w0.heap.size) (hb : m * 16 ≤ 140737488355328) :
    ∃ A' c' w', (Builtin.append_ #[34, 34] ty #[.slice (some ⟨w0.heap.size, 0, none⟩) 0 0, .slice A m c]).run Try.prog (w0.alloc (.cells #[] 25)) = .ok (.slice A' m c') w' ∧ Rv w' w'.heap.size A' vs ∧ Below w0.heap.size w0 w' := by
  obtain ⟨A', c', w', h1, h2, h3, _⟩ := run_copyV2 ty w0 B A m c vs hm hr hB hb
  exact ⟨A', c', w', h1, h2, h3⟩
theorem op_copyV {o : Oper} {a : Act} {K : Act → World → Prop} {Q : Exit → Act → World → Prop} (s x : Operand)
    (ho : o.op = .call { callee := .builtin .append, args := #[s, x], argTypes := #[34, 34] })
    (w0 : World) (hs : a.eval s = .slice (some ⟨w0.heap.size, 0, none⟩) 0 0)
    (B : Nat) (A : Option Addr) (m c : Nat) (vs : List (Nat × Nat)) (hx : a.eval x = .slice A m c) (hm : m = vs.length) (hr : Rv w0 B A vs) (hB : B ≤ w0.heap.size) (hb : m * 16 ≤ 140737488355328)
    (h : ∀ A' c' w', Rv w' w'.heap.size A' vs → Below w0.heap.size w0 w' → K (a.put o.dst (.slice A' m c')) w') : o.wp Try.prog a (w0.alloc (.cells #[] 25)) K Q := by
  obtain ⟨A', c', w', hrun, h2, h3⟩ := run_copyV o.type w0 B A m c vs hm hr hB hb
  unfold Oper.wp execOp
  simp only [ho, resolve, invoke, builtin, Sem.run_bind, Sem.run_pure, Result.andThen_ok, List.map_toArray, List.map_cons, List.map_nil, hs, hx, hrun]
  exact h A' c' w' h2 h3
theorem wp_copyV {ops : Array Oper} {rest : List Oper} {o : Oper} {a : Act} {Q : Exit → Act → World → Prop} (hgd : o.guard = none) (s x : Operand)
    (ho : o.op = .call { callee := .builtin .append, args := #[s, x], argTypes := #[34, 34] })
    (w0 : World) (hs : a.eval s = .slice (some ⟨w0.heap.size, 0, none⟩) 0 0)
    (B : Nat) (A : Option Addr) (m c : Nat) (vs : List (Nat × Nat)) (hx : a.eval x = .slice A m c) (hm : m = vs.length) (hr : Rv w0 B A vs) (hB : B ≤ w0.heap.size) (hb : m * 16 ≤ 140737488355328)
    (h : ∀ A' c' w', Rv w' w'.heap.size A' vs → Below w0.heap.size w0 w' → wpList Try.prog ops Q rest (a.put o.dst (.slice A' m c')) w') : wpList Try.prog ops Q (o :: rest) a (w0.alloc (.cells #[] 25)) :=
  wpList_plain hgd fun _ hK => op_copyV s x ho w0 hs B A m c vs hx hm hr hB hb fun A' c' w' h1 h2 => hK _ _ (h A' c' w' h1 h2)
theorem op_copyV2 {o : Oper} {a : Act} {K : Act → World → Prop} {Q : Exit → Act → World → Prop} (s x : Operand)
    (ho : o.op = .call { callee := .builtin .append, args := #[s, x], argTypes := #[34, 34] })
    (w0 : World) (hs : a.eval s = .slice (some ⟨w0.heap.size, 0, none⟩) 0 0)
    (B : Nat) (A : Option Addr) (m c : Nat) (vs : List (Nat × Nat)) (hx : a.eval x = .slice A m c) (hm : m = vs.length) (hr : Rv w0 B A vs) (hB : B ≤ w0.heap.size) (hb : m * 16 ≤ 140737488355328)
    (h : ∀ A' c' w', Rv w' w'.heap.size A' vs → Below w0.heap.size w0 w' → (0 < m → ∃ g cur, A' = some ⟨g, 0, none⟩ ∧ w0.heap.size ≤ g ∧ w'.heap[g]? = some (.cells cur 25)) → K (a.put o.dst (.slice A' m c')) w') : o.wp Try.prog a (w0.alloc (.cells #[] 25)) K Q := by
  obtain ⟨A', c', w', hrun, h2, h3, h4⟩ := run_copyV2 o.type w0 B A m c vs hm hr hB hb
  unfold Oper.wp execOp
  simp only [ho, resolve, invoke, builtin, Sem.run_bind, Sem.run_pure, Result.andThen_ok, List.map_toArray, List.map_cons, List.map_nil, hs, hx, hrun]
  exact h A' c' w' h2 h3 h4
theorem wp_copyV2 {ops : Array Oper} {rest : List Oper} {o : Oper} {a : Act} {Q : Exit → Act → World → Prop} (hgd : o.guard = none) (s x : Operand)
    (ho : o.op = .call { callee := .builtin .append, args := #[s, x], argTypes := #[34, 34] })
    (w0 : World) (hs : a.eval s = .slice (some ⟨w0.heap.size, 0, none⟩) 0 0)
    (B : Nat) (A : Option Addr) (m c : Nat) (vs : List (Nat × Nat)) (hx : a.eval x = .slice A m c) (hm : m = vs.length) (hr : Rv w0 B A vs) (hB : B ≤ w0.heap.size) (hb : m * 16 ≤ 140737488355328)
    (h : ∀ A' c' w', Rv w' w'.heap.size A' vs → Below w0.heap.size w0 w' → (0 < m → ∃ g cur, A' = some ⟨g, 0, none⟩ ∧ w0.heap.size ≤ g ∧ w'.heap[g]? = some (.cells cur 25)) → wpList Try.prog ops Q rest (a.put o.dst (.slice A' m c')) w') : wpList Try.prog ops Q (o :: rest) a (w0.alloc (.cells #[] 25)) :=
  wpList_plain hgd fun _ hK => op_copyV2 s x ho w0 hs B A m c vs hx hm hr hB hb fun A' c' w' h1 h2 h3 => hK _ _ (h A' c' w' h1 h2 h3)
end Go.Proofs.Ytofjdfnoibfdfaa
