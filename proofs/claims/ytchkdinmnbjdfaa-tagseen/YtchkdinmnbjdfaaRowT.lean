/- A slice of tags copied: append([]api.Tag{}, l...); appended to. -/
import Derived.Test.YtchkdinmnbjdfaaTgW
namespace Go.Proofs.Ytchkdinmnbjdfaa.Tgw
open Go.RowKit
open Tg

theorem infoT : (Try.prog.info? 23).map (fun i => (i.zero, i.size, i.bytes)) = some (some (.agg #[.int .i64 0, .int .i64 0]), 2, 16) := by kernel_rfl
theorem add_at (b o j : Nat) : (⟨b, o, none⟩ : Addr).add j = ⟨b, o + j, none⟩ := by unfold Addr.add; split <;> simp_all
theorem flat_len (ts : List (Int × Int)) : (flat ts).length = ts.length * 2 := by
  induction ts with
  | nil => rfl
  | cons x l ih =>
    show (_ :: _ :: flat l).length = _
    simp only [List.length_cons, ih]
    omega
theorem flat_one (ts : List (Int × Int)) : ∀ u ∈ flat ts, u.oneCell' = true := by
  intro u hu
  obtain ⟨v, _, hv⟩ := List.mem_flatMap.1 hu
  simp only [List.mem_cons, List.not_mem_nil, or_false] at hv
  rcases hv with rfl | rfl <;> rfl
theorem flat_get (ts : List (Int × Int)) (j : Nat) (u : Value) (h : (flat ts)[j]? = some u) : ∃ (i : Nat) (v : Int × Int), ts[i]? = some v ∧ ((j = i * 2 ∧ u = .int .i64 v.1) ∨ (j = i * 2 + 1 ∧ u = .int .i64 v.2)) := by
  have hj : j < ts.length * 2 := by
    rw [← flat_len]
    rcases Nat.lt_or_ge j (flat ts).length with h' | h'
    · exact h'
    · rw [List.getElem?_eq_none h'] at h; cases h
  have hi : j / 2 < ts.length := by omega
  have hv : ts[j / 2]? = some ts[j / 2] := List.getElem?_eq_getElem hi
  have hf := flat_at ts (j / 2) _ hv
  refine ⟨j / 2, _, hv, ?_⟩
  rcases Nat.mod_two_eq_zero_or_one j with h0 | h0
  · left
    have e : j = j / 2 * 2 := by omega
    rw [e, hf.1] at h
    exact ⟨e, (Option.some.inj h).symm⟩
  · right
    have e : j = j / 2 * 2 + 1 := by omega
    rw [e, hf.2] at h
    exact ⟨e, (Option.some.inj h).symm⟩
theorem run_copyT2 (ty : TypeId) (w0 : World) (B : Nat) (A : Option Addr) (m c : Nat) (ts : List (Int × Int)) (hm : m = ts.length) (hr : Rt w0 B A ts) (hB : B ≤ w0.heap.size) (hb : m * 16 ≤ 140737488355328) :
    ∃ A' c' w', (Builtin.append_ #[29, 29] ty #[.slice (some ⟨w0.heap.size, 0, none⟩) 0 0, .slice A m c]).run Try.prog (w0.alloc (.cells #[] 23)) = .ok (.slice A' m c') w' ∧ Rt w' w'.heap.size A' ts ∧ Below w0.heap.size w0 w' ∧ (0 < m → ∃ g cur, A' = some ⟨g, 0, none⟩ ∧ w0.heap.size ≤ g ∧ w'.heap[g]? = some (.cells cur 23)) ∧ m ≤ c' := by
  obtain ⟨i0, hi, hz0, hz1, hz2⟩ := info_parts infoT
  have hown : (w0.alloc (.cells #[] 23)).ownsRow w0.heap.size 23 2 (.slice (some ⟨w0.heap.size, 0, none⟩) 0 0) 0 [] :=
    ⟨by simp, .inr ⟨w0.heap.size, 0, #[], rfl, Nat.le_refl _, heap_alloc_new w0 _, Nat.le_refl _, by simp, by simp, by simp⟩⟩
  have hal : Below w0.heap.size w0 (w0.alloc (.cells #[] 23)) := bal (Below.refl _ _) (Nat.le_refl _) _
  have key : ∀ ad : Addr, A = some ad → (∀ j u, (flat ts)[j]? = some u → (w0.alloc (.cells #[] 23)).cell? (ad.add j) = some u) →
      ∃ A' c' w', (Builtin.append_ #[29, 29] ty #[.slice (some ⟨w0.heap.size, 0, none⟩) 0 0, .slice A m c]).run Try.prog (w0.alloc (.cells #[] 23)) = .ok (.slice A' m c') w' ∧ Rt w' w'.heap.size A' ts ∧ Below w0.heap.size w0 w' ∧ (0 < m → ∃ g cur, A' = some ⟨g, 0, none⟩ ∧ w0.heap.size ≤ g ∧ w'.heap[g]? = some (.cells cur 23)) ∧ m ≤ c' := by
    rintro ad rfl hc
    obtain ⟨v', w', hrun, ho, hg, _⟩ := run_append_own (P := Try.prog) _ w0.heap.size 29 ty 23 i0 _ 2 16 Try.underlying29 hi hz0 hz1 hz2 rfl (by omega) _ 0 [] hown ad m c (flat ts) (by rw [flat_len, hm]) hc (flat_one ts) (by unfold maxLen; omega) (by omega) (by simp)
    rw [Nat.zero_add, List.nil_append] at ho
    have hbl : Below w0.heap.size w0 w' := hal.trans ((Below.refl _ _).grown hg (by simp) (fun k hk => (hown.lt k hk).1))
    rcases ho.2 with ⟨rfl, h0⟩ | ⟨g, cap, cur, rfl, hbg, hh, hcp, _⟩
    · subst h0
      exact ⟨none, 0, w', hrun, fun h => by omega, hbl, fun h => by omega, by omega⟩
    · refine ⟨_, _, w', hrun, fun _ => ⟨g, 0, rfl, (ho.lt g rfl).2, fun j v hv => ?_⟩, hbl, fun _ => ⟨g, cur, rfl, hbg, hh⟩, hcp⟩
      have hf := flat_at ts j v hv
      have h1 := ho.cells (g := g) rfl _ _ hf.1
      have h2 := ho.cells (g := g) rfl _ _ hf.2
      rw [add_at] at h1 h2
      exact ⟨h1, h2⟩
  rcases Nat.eq_zero_or_pos ts.length with h0 | h0
  · have hn : ts = [] := List.eq_nil_of_length_eq_zero h0
    subst hn
    cases A with
    | some ad => exact key ad rfl (fun j u hu => by simp [flat] at hu)
    | none =>
      have hm0 : m = 0 := by simpa using hm
      subst hm0
      refine ⟨some ⟨w0.heap.size, 0, none⟩, 0, _, ?_, fun h => by simp at h, hal, fun h => by omega, Nat.le_refl _⟩
      simp [Builtin.append_, run_underlying Try.underlying29, sizeOf, typeInfo, hi, Builtin.lenOf, Builtin.firstCells, storeCells]
  · obtain ⟨b, o, e1, hbB, hc⟩ := hr h0
    refine key _ e1 (fun j u hu => ?_)
    rw [add_at]
    obtain ⟨i, v, hv, h⟩ := flat_get ts j u hu
    have hcv := hc i v hv
    rcases h with ⟨rfl, rfl⟩ | ⟨rfl, rfl⟩
    · exact (hal.cell (p := ⟨b, o + i * 2, none⟩) (by show b < _; omega)).trans hcv.1
    · exact (hal.cell (p := ⟨b, o + i * 2 + 1, none⟩) (by show b < _; omega)).trans hcv.2
theorem run_copyT (ty : TypeId) (w0 : World) (B : Nat) (A : Option Addr) (m c : Nat) (ts : List (Int × Int)) (hm : m = ts.length) (hr : Rt w0 B A ts) (hB : B ≤ w0.heap.size) (hb : m * 16 ≤ 140737488355328) :
    ∃ A' c' w', (Builtin.append_ #[29, 29] ty #[.slice (some ⟨w0.heap.size, 0, none⟩) 0 0, .slice A m c]).run Try.prog (w0.alloc (.cells #[] 23)) = .ok (.slice A' m c') w' ∧ Rt w' w'.heap.size A' ts ∧ Below w0.heap.size w0 w' ∧ m ≤ c' := by
  obtain ⟨A', c', w', h1, h2, h3, _, h5⟩ := run_copyT2 ty w0 B A m c ts hm hr hB hb
  exact ⟨A', c', w', h1, h2, h3, h5⟩
theorem op_copyT {o : Oper} {a : Act} {K : Act → World → Prop} {Q : Exit → Act → World → Prop} (s x : Operand)
    (ho : o.op = .call { callee := .builtin .append, args := #[s, x], argTypes := #[29, 29] })
    (w0 : World) (hs : a.eval s = .slice (some ⟨w0.heap.size, 0, none⟩) 0 0)
    (B : Nat) (A : Option Addr) (m c : Nat) (ts : List (Int × Int)) (hx : a.eval x = .slice A m c) (hm : m = ts.length) (hr : Rt w0 B A ts) (hB : B ≤ w0.heap.size) (hb : m * 16 ≤ 140737488355328)
    (h : ∀ A' c' w', Rt w' w'.heap.size A' ts → Below w0.heap.size w0 w' → m ≤ c' → K (a.put o.dst (.slice A' m c')) w') : o.wp Try.prog a (w0.alloc (.cells #[] 23)) K Q := by
  obtain ⟨A', c', w', hrun, h2, h3, h5⟩ := run_copyT o.type w0 B A m c ts hm hr hB hb
  unfold Oper.wp execOp
  simp only [ho, resolve, invoke, builtin, Sem.run_bind, Sem.run_pure, Result.andThen_ok, List.map_toArray, List.map_cons, List.map_nil, hs, hx, hrun]
  exact h A' c' w' h2 h3 h5
theorem wp_copyT {ops : Array Oper} {rest : List Oper} {o : Oper} {a : Act} {Q : Exit → Act → World → Prop} (hgd : o.guard = none) (s x : Operand)
    (ho : o.op = .call { callee := .builtin .append, args := #[s, x], argTypes := #[29, 29] })
    (w0 : World) (hs : a.eval s = .slice (some ⟨w0.heap.size, 0, none⟩) 0 0)
    (B : Nat) (A : Option Addr) (m c : Nat) (ts : List (Int × Int)) (hx : a.eval x = .slice A m c) (hm : m = ts.length) (hr : Rt w0 B A ts) (hB : B ≤ w0.heap.size) (hb : m * 16 ≤ 140737488355328)
    (h : ∀ A' c' w', Rt w' w'.heap.size A' ts → Below w0.heap.size w0 w' → m ≤ c' → wpList Try.prog ops Q rest (a.put o.dst (.slice A' m c')) w') : wpList Try.prog ops Q (o :: rest) a (w0.alloc (.cells #[] 23)) :=
  wpList_plain hgd fun _ hK => op_copyT s x ho w0 hs B A m c ts hx hm hr hB hb fun A' c' w' h1 h2 h5 => hK _ _ (h A' c' w' h1 h2 h5)
theorem op_copyT2 {o : Oper} {a : Act} {K : Act → World → Prop} {Q : Exit → Act → World → Prop} (s x : Operand)
    (ho : o.op = .call { callee := .builtin .append, args := #[s, x], argTypes := #[29, 29] })
    (w0 : World) (hs : a.eval s = .slice (some ⟨w0.heap.size, 0, none⟩) 0 0)
    (B : Nat) (A : Option Addr) (m c : Nat) (ts : List (Int × Int)) (hx : a.eval x = .slice A m c) (hm : m = ts.length) (hr : Rt w0 B A ts) (hB : B ≤ w0.heap.size) (hb : m * 16 ≤ 140737488355328)
    (h : ∀ A' c' w', Rt w' w'.heap.size A' ts → Below w0.heap.size w0 w' → m ≤ c' → (0 < m → ∃ g cur, A' = some ⟨g, 0, none⟩ ∧ w0.heap.size ≤ g ∧ w'.heap[g]? = some (.cells cur 23)) → K (a.put o.dst (.slice A' m c')) w') : o.wp Try.prog a (w0.alloc (.cells #[] 23)) K Q := by
  obtain ⟨A', c', w', hrun, h2, h3, h4, h5⟩ := run_copyT2 o.type w0 B A m c ts hm hr hB hb
  unfold Oper.wp execOp
  simp only [ho, resolve, invoke, builtin, Sem.run_bind, Sem.run_pure, Result.andThen_ok, List.map_toArray, List.map_cons, List.map_nil, hs, hx, hrun]
  exact h A' c' w' h2 h3 h5 h4
theorem wp_copyT2 {ops : Array Oper} {rest : List Oper} {o : Oper} {a : Act} {Q : Exit → Act → World → Prop} (hgd : o.guard = none) (s x : Operand)
    (ho : o.op = .call { callee := .builtin .append, args := #[s, x], argTypes := #[29, 29] })
    (w0 : World) (hs : a.eval s = .slice (some ⟨w0.heap.size, 0, none⟩) 0 0)
    (B : Nat) (A : Option Addr) (m c : Nat) (ts : List (Int × Int)) (hx : a.eval x = .slice A m c) (hm : m = ts.length) (hr : Rt w0 B A ts) (hB : B ≤ w0.heap.size) (hb : m * 16 ≤ 140737488355328)
    (h : ∀ A' c' w', Rt w' w'.heap.size A' ts → Below w0.heap.size w0 w' → m ≤ c' → (0 < m → ∃ g cur, A' = some ⟨g, 0, none⟩ ∧ w0.heap.size ≤ g ∧ w'.heap[g]? = some (.cells cur 23)) → wpList Try.prog ops Q rest (a.put o.dst (.slice A' m c')) w') : wpList Try.prog ops Q (o :: rest) a (w0.alloc (.cells #[] 23)) :=
  wpList_plain hgd fun _ hK => op_copyT2 s x ho w0 hs B A m c ts hx hm hr hB hb fun A' c' w' h1 h2 h5 h3 => hK _ _ (h A' c' w' h1 h2 h5 h3)
/-- the slice A holds the tags ts, in a row of the call's own from block base on -/
def OwnT (w : World) (base : Nat) (A : Option Addr) (n c : Nat) (ts : List (Int × Int)) : Prop := n = ts.length ∧ w.ownsRow base 23 2 (.slice A n c) n (flat ts)
theorem OwnT.rt {w : World} {base : Nat} {A : Option Addr} {n c : Nat} {ts : List (Int × Int)} (h : OwnT w base A n c ts) : Rt w w.heap.size A ts := by
  intro hp
  rcases h.2.2 with ⟨_, h0⟩ | ⟨g, cap, cur, e, _, hh, _⟩
  · exfalso
    rw [← h.1] at hp
    omega
  · injection e with e1 e2 e3
    subst e1
    refine ⟨g, 0, rfl, (h.2.lt g rfl).2, fun j v hv => ?_⟩
    have hf := flat_at ts j v hv
    have h1 := h.2.cells (g := g) rfl _ _ hf.1
    have h2 := h.2.cells (g := g) rfl _ _ hf.2
    rw [add_at] at h1 h2
    exact ⟨h1, h2⟩
theorem OwnT.cap {w : World} {base : Nat} {A : Option Addr} {n c : Nat} {ts : List (Int × Int)} (h : OwnT w base A n c ts) : n ≤ c := by
  rcases h.2.2 with ⟨_, h0⟩ | ⟨g, cap, cur, e, _, _, hcp, _⟩
  · omega
  · injection e with e1 e2 e3
    omega
theorem OwnT.below {w w' : World} {base B : Nat} {A : Option Addr} {n c : Nat} {ts : List (Int × Int)} (h : OwnT w base A n c ts) (hb : Below B w w') (hB : w.heap.size ≤ B) : OwnT w' base A n c ts := by
  refine ⟨h.1, h.2.1, ?_⟩
  rcases h.2.2 with h0 | ⟨g, cap, cur, hv, hg, hh, r⟩
  · exact .inl h0
  · refine .inr ⟨g, cap, cur, hv, hg, ?_, r⟩
    injection hv with e1 e2 e3
    subst e1
    rw [hb.block g (Nat.lt_of_lt_of_le (h.2.lt g rfl).2 hB)]
    exact hh
theorem OwnT.alloc {w : World} {base : Nat} {A : Option Addr} {n c : Nat} {ts : List (Int × Int)} (h : OwnT w base A n c ts) (o : Obj) : OwnT (w.alloc o) base A n c ts := ⟨h.1, h.2.alloc o⟩
theorem ownT_new (w : World) (base g : Nat) (hg : g = w.heap.size) (hb : base ≤ w.heap.size) : OwnT (w.alloc (.cells #[] 23)) base (some ⟨g, 0, none⟩) 0 0 [] := by
  subst hg
  exact ⟨rfl, by simp [flat], .inr ⟨w.heap.size, 0, #[], rfl, hb, heap_alloc_new w _, Nat.le_refl _, by simp, by simp, by simp [flat]⟩⟩
theorem run_appT (ty : TypeId) (w : World) (base : Nat) (A0 : Option Addr) (n0 c0 : Nat) (ts0 : List (Int × Int)) (hown : OwnT w base A0 n0 c0 ts0) (b o m c : Nat) (ts : List (Int × Int)) (hm : m = ts.length)
    (hc : ∀ j t, ts[j]? = some t → w.cell? ⟨b, o + j * 2, none⟩ = some (.int .i64 t.1) ∧ w.cell? ⟨b, o + j * 2 + 1, none⟩ = some (.int .i64 t.2)) (hb : (n0 + m) * 16 ≤ 140737488355328) (hbase : base ≤ w.heap.size) :
    ∃ A' c' w', (Builtin.append_ #[29, 29] ty #[.slice A0 n0 c0, .slice (some ⟨b, o, none⟩) m c]).run Try.prog w = .ok (.slice A' (n0 + m) c') w' ∧ OwnT w' base A' (n0 + m) c' (ts0 ++ ts) ∧ Below base w w' := by
  obtain ⟨i0, hi, hz0, hz1, hz2⟩ := info_parts infoT
  obtain ⟨v', w', hrun, ho, hg, _⟩ := run_append_own (P := Try.prog) _ base 29 ty 23 i0 _ 2 16 Try.underlying29 hi hz0 hz1 hz2 rfl (by omega) _ n0 (flat ts0) hown.2 ⟨b, o, none⟩ m c (flat ts) (by rw [flat_len, hm])
    (fun j u hu => by
      rw [add_at]
      obtain ⟨i, v, hv, h⟩ := flat_get ts j u hu
      have hcv := hc i v hv
      rcases h with ⟨rfl, rfl⟩ | ⟨rfl, rfl⟩
      · exact hcv.1
      · exact hcv.2) (flat_one ts) (by unfold maxLen; omega) (by omega) hbase
  have hbl : Below base w w' := (Below.refl _ _).grown hg hbase (fun k hk => (hown.2.lt k hk).1)
  have hfl : flat ts0 ++ flat ts = flat (ts0 ++ ts) := by unfold flat; rw [List.flatMap_append]
  rw [hfl] at ho
  have hlen : n0 + m = (ts0 ++ ts).length := by rw [List.length_append, hown.1, hm]
  rcases ho.2 with ⟨rfl, h0⟩ | ⟨g, cap, cur, rfl, _⟩
  · rw [h0] at ho hlen ⊢
    exact ⟨none, 0, w', hrun, ⟨hlen, ho⟩, hbl⟩
  · exact ⟨_, _, w', hrun, ⟨hlen, ho⟩, hbl⟩
theorem wp_appT {w : World} {ops : Array Oper} {rest : List Oper} {o : Oper} {a : Act} {Q : Exit → Act → World → Prop} (hgd : o.guard = none) (s x : Operand)
    (ho : o.op = .call { callee := .builtin .append, args := #[s, x], argTypes := #[29, 29] })
    (base : Nat) (A0 : Option Addr) (n0 c0 : Nat) (ts0 : List (Int × Int)) (hs : a.eval s = .slice A0 n0 c0) (hown : OwnT w base A0 n0 c0 ts0)
    (b of m c : Nat) (ts : List (Int × Int)) (hx : a.eval x = .slice (some ⟨b, of, none⟩) m c) (hm : m = ts.length)
    (hc : ∀ j t, ts[j]? = some t → w.cell? ⟨b, of + j * 2, none⟩ = some (.int .i64 t.1) ∧ w.cell? ⟨b, of + j * 2 + 1, none⟩ = some (.int .i64 t.2)) (hb : (n0 + m) * 16 ≤ 140737488355328) (hbase : base ≤ w.heap.size)
    (h : ∀ A' c' w', OwnT w' base A' (n0 + m) c' (ts0 ++ ts) → Below base w w' → wpList Try.prog ops Q rest (a.put o.dst (.slice A' (n0 + m) c')) w') : wpList Try.prog ops Q (o :: rest) a w := by
  refine wpList_plain hgd fun _ hK => ?_
  obtain ⟨A', c', w', hrun, h2, h3⟩ := run_appT o.type w base A0 n0 c0 ts0 hown b of m c ts hm hc hb hbase
  unfold Oper.wp execOp
  simp only [ho, resolve, invoke, builtin, Sem.run_bind, Sem.run_pure, Result.andThen_ok, List.map_toArray, List.map_cons, List.map_nil, hs, hx, hrun]
  exact hK _ _ (h A' c' w' h2 h3)
theorem one_cells (w : World) (ts : List (Int × Int)) (j : Nat) (t : Int × Int) (ht : ts[j]? = some t) : (w.alloc (.cells (flat ts).toArray 23)).cell? ⟨w.heap.size, 0 + j * 2, none⟩ = some (.int .i64 t.1) ∧ (w.alloc (.cells (flat ts).toArray 23)).cell? ⟨w.heap.size, 0 + j * 2 + 1, none⟩ = some (.int .i64 t.2) := by
  have h := flat_at ts j t ht
  rw [cell_of_row _ _ _ _ _ _ (heap_alloc_new w _), cell_of_row _ _ _ _ _ _ (heap_alloc_new w _)]
  simpa using h
/-- s[:k] of a slice of tags -/
theorem run_uptoT (A : Option Addr) (n c k : Nat) (j : Int) (q : IntKind) (hj : j = (k : Int)) (hk : k ≤ c) :
    ∃ A', (∀ w, (Instr.slice 29 (.slice A n c) none (some (.int q j)) none).run Try.prog w = .ok (.slice A' k c) w) ∧ A' = A := by
  subst hj
  have he : Try.prog.elem 29 = 23 := by simp [Program.elem, Try.underlying29]
  refine ⟨A, fun w => ?_, rfl⟩
  rw [run_slice_h (P := Try.prog) w 29 A n c (by rw [he]; exact Try.underlying29) q k (by omega) (by omega), he, Try.sizeOf23]
  simp [Result.andThen, sliced]
  intro _
  cases A <;> simp [Addr.add]
end Go.Proofs.Ytchkdinmnbjdfaa.Tgw
