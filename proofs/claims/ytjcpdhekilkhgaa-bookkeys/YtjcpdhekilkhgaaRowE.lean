/- Slices of entries: a row of the call's own, appended to, copied. -/
import Derived.Test.YtjcpdhekilkhgaaBkW
namespace Go.Proofs.Ytjcpdhekilkhgaa.Bkw
open Go.RowKit
open Tg Bk
open Tgw (bal hat hbe ret_bool tv)

theorem infoE : (Try.prog.info? 26).map (fun i => (i.zero, i.size, i.bytes)) = some (some (.agg #[.int .i64 0, .int .i64 0, .int .i64 0, .float .f64 0]), 4, 32) := by kernel_rfl
theorem add_at (b o j : Nat) : (⟨b, o, none⟩ : Addr).add j = ⟨b, o + j, none⟩ := by unfold Addr.add; split <;> simp_all
/-- the slice A holds the entries es, in a row of the call's own from block base on -/
def OwnE (w : World) (base : Nat) (A : Option Addr) (n c : Nat) (es : List E) : Prop := n = es.length ∧ w.ownsRow base 26 4 (.slice A n c) n (flat es)
/-- it returns a slice of its own with these entries; below base nothing has turned -/
def RetOwnE (w : World) (base : Nat) (es : List E) (e : Ending) (w' : World) : Prop := ∃ A n c, e = .returned (.slice A n c) ∧ OwnE w' base A n c es ∧ Below base w w'
theorem OwnE.re {w : World} {base : Nat} {A : Option Addr} {n c : Nat} {es : List E} (h : OwnE w base A n c es) : Re w w.heap.size A es := by
  intro hp
  rcases h.2.2 with ⟨_, h0⟩ | ⟨g, cap, cur, e, _, hh, _⟩
  · exfalso
    rw [← h.1] at hp
    omega
  · injection e with e1 e2 e3
    subst e1
    refine ⟨g, 0, rfl, (h.2.lt g rfl).2, fun j v hv => four_of fun i u hi hu => ?_⟩
    have hf := flat_at es j v hv i hi
    rw [hu] at hf
    have h1 := h.2.cells (g := g) rfl _ _ hf
    rw [add_at] at h1
    rw [← h1]
    congr 2
    omega
theorem OwnE.below {w w' : World} {base B : Nat} {A : Option Addr} {n c : Nat} {es : List E} (h : OwnE w base A n c es) (hb : Below B w w') (hB : w.heap.size ≤ B) : OwnE w' base A n c es := by
  refine ⟨h.1, h.2.1, ?_⟩
  rcases h.2.2 with h0 | ⟨g, cap, cur, hv, hg, hh, r⟩
  · exact .inl h0
  · refine .inr ⟨g, cap, cur, hv, hg, ?_, r⟩
    injection hv with e1 e2 e3
    subst e1
    rw [hb.block g (Nat.lt_of_lt_of_le (h.2.lt g rfl).2 hB)]
    exact hh
theorem OwnE.alloc {w : World} {base : Nat} {A : Option Addr} {n c : Nat} {es : List E} (h : OwnE w base A n c es) (o : Obj) : OwnE (w.alloc o) base A n c es := ⟨h.1, h.2.alloc o⟩
theorem OwnE.base {w : World} {base base' : Nat} {A : Option Addr} {n c : Nat} {es : List E} (h : OwnE w base A n c es) (hB : base' ≤ base) : OwnE w base' A n c es := by
  refine ⟨h.1, h.2.1, ?_⟩
  rcases h.2.2 with h0 | ⟨g, cap, cur, hv, hg, r⟩
  · exact .inl h0
  · exact .inr ⟨g, cap, cur, hv, Nat.le_trans hB hg, r⟩
theorem ownE_new (w : World) (base g : Nat) (hg : g = w.heap.size) (hb : base ≤ w.heap.size) : OwnE (w.alloc (.cells #[] 26)) base (some ⟨g, 0, none⟩) 0 0 [] := by
  subst hg
  exact ⟨rfl, by simp [flat], .inr ⟨w.heap.size, 0, #[], rfl, hb, heap_alloc_new w _, Nat.le_refl _, by simp, by simp, by simp [flat]⟩⟩
theorem ownE_none (w : World) (base : Nat) : OwnE w base none 0 0 [] := ⟨rfl, by simp [flat], .inl ⟨rfl, rfl⟩⟩
theorem run_appE_any (ty : TypeId) (w : World) (base : Nat) (A0 : Option Addr) (n0 c0 : Nat) (es0 : List E) (hown : OwnE w base A0 n0 c0 es0) (ad : Addr) (m c : Nat) (es : List E) (hm : m = es.length)
    (hc : ∀ j u, (flat es)[j]? = some u → w.cell? (ad.add j) = some u) (hb : (n0 + m) * 32 ≤ 140737488355328) (hbase : base ≤ w.heap.size) :
    ∃ A' c' w', (Builtin.append_ #[32, 32] ty #[.slice A0 n0 c0, .slice (some ad) m c]).run Try.prog w = .ok (.slice A' (n0 + m) c') w' ∧ OwnE w' base A' (n0 + m) c' (es0 ++ es) ∧ Below base w w' := by
  obtain ⟨i0, hi, hz0, hz1, hz2⟩ := info_parts infoE
  obtain ⟨v', w', hrun, ho, hg, _⟩ := run_append_own (P := Try.prog) _ base 32 ty 26 i0 _ 4 32 Try.underlying32 hi hz0 hz1 hz2 rfl (by omega) _ n0 (flat es0) hown.2 ad m c (flat es) (by rw [flat_len, hm])
    hc (flat_one es) (by unfold maxLen; omega) (by omega) hbase
  have hbl : Below base w w' := (Below.refl _ _).grown hg hbase (fun k hk => (hown.2.lt k hk).1)
  have hfl : flat es0 ++ flat es = flat (es0 ++ es) := by unfold flat; rw [List.flatMap_append]
  rw [hfl] at ho
  have hlen : n0 + m = (es0 ++ es).length := by rw [List.length_append, hown.1, hm]
  rcases ho.2 with ⟨rfl, h0⟩ | ⟨g, cap, cur, rfl, _⟩
  · rw [h0] at ho hlen ⊢
    exact ⟨none, 0, w', hrun, ⟨hlen, ho⟩, hbl⟩
  · exact ⟨_, _, w', hrun, ⟨hlen, ho⟩, hbl⟩
theorem run_appE (ty : TypeId) (w : World) (base : Nat) (A0 : Option Addr) (n0 c0 : Nat) (es0 : List E) (hown : OwnE w base A0 n0 c0 es0) (b o m c : Nat) (es : List E) (hm : m = es.length)
    (hc : ∀ j e, es[j]? = some e → Four w b (o + j * 4) e) (hb : (n0 + m) * 32 ≤ 140737488355328) (hbase : base ≤ w.heap.size) :
    ∃ A' c' w', (Builtin.append_ #[32, 32] ty #[.slice A0 n0 c0, .slice (some ⟨b, o, none⟩) m c]).run Try.prog w = .ok (.slice A' (n0 + m) c') w' ∧ OwnE w' base A' (n0 + m) c' (es0 ++ es) ∧ Below base w w' :=
  run_appE_any ty w base A0 n0 c0 es0 hown ⟨b, o, none⟩ m c es hm (fun j u hu => by
    rw [add_at]
    obtain ⟨k, i, v, hv, hi, rfl, h⟩ := flat_get es j u hu
    rw [← Nat.add_assoc]
    exact (hc k v hv).cells i hi u h) hb hbase
theorem op_appE {w : World} {o : Oper} {a : Act} {K : Act → World → Prop} {Q : Exit → Act → World → Prop} (s x : Operand)
    (ho : o.op = .call { callee := .builtin .append, args := #[s, x], argTypes := #[32, 32] })
    (base : Nat) (A0 : Option Addr) (n0 c0 : Nat) (es0 : List E) (hs : a.eval s = .slice A0 n0 c0) (hown : OwnE w base A0 n0 c0 es0)
    (b of m c : Nat) (es : List E) (hx : a.eval x = .slice (some ⟨b, of, none⟩) m c) (hm : m = es.length)
    (hc : ∀ j e, es[j]? = some e → Four w b (of + j * 4) e) (hb : (n0 + m) * 32 ≤ 140737488355328) (hbase : base ≤ w.heap.size)
    (h : ∀ A' c' w', OwnE w' base A' (n0 + m) c' (es0 ++ es) → Below base w w' → K (a.put o.dst (.slice A' (n0 + m) c')) w') : o.wp Try.prog a w K Q := by
  obtain ⟨A', c', w', hrun, h2, h3⟩ := run_appE o.type w base A0 n0 c0 es0 hown b of m c es hm hc hb hbase
  unfold Oper.wp execOp
  simp only [ho, resolve, invoke, builtin, Sem.run_bind, Sem.run_pure, Result.andThen_ok, List.map_toArray, List.map_cons, List.map_nil, hs, hx, hrun]
  exact h A' c' w' h2 h3
theorem wp_appE {w : World} {ops : Array Oper} {rest : List Oper} {o : Oper} {a : Act} {Q : Exit → Act → World → Prop} (hgd : o.guard = none) (s x : Operand)
    (ho : o.op = .call { callee := .builtin .append, args := #[s, x], argTypes := #[32, 32] })
    (base : Nat) (A0 : Option Addr) (n0 c0 : Nat) (es0 : List E) (hs : a.eval s = .slice A0 n0 c0) (hown : OwnE w base A0 n0 c0 es0)
    (b of m c : Nat) (es : List E) (hx : a.eval x = .slice (some ⟨b, of, none⟩) m c) (hm : m = es.length)
    (hc : ∀ j e, es[j]? = some e → Four w b (of + j * 4) e) (hb : (n0 + m) * 32 ≤ 140737488355328) (hbase : base ≤ w.heap.size)
    (h : ∀ A' c' w', OwnE w' base A' (n0 + m) c' (es0 ++ es) → Below base w w' → wpList Try.prog ops Q rest (a.put o.dst (.slice A' (n0 + m) c')) w') : wpList Try.prog ops Q (o :: rest) a w :=
  wpList_plain hgd fun _ hK => op_appE s x ho base A0 n0 c0 es0 hs hown b of m c es hx hm hc hb hbase fun A' c' w' h1 h2 => hK _ _ (h A' c' w' h1 h2)
theorem one_cells (w : World) (es : List E) (j : Nat) (e : E) (he : es[j]? = some e) : Four (w.alloc (.cells (flat es).toArray 26)) w.heap.size (0 + j * 4) e := by
  refine four_of fun i u hi hu => ?_
  have h := flat_at es j e he i hi
  rw [cell_of_row _ _ _ _ _ _ (heap_alloc_new w _), Nat.zero_add]
  rw [hu] at h
  simpa using h
theorem OwnE.cap {w : World} {base : Nat} {A : Option Addr} {n c : Nat} {es : List E} (h : OwnE w base A n c es) : n ≤ c := by
  rcases h.2.2 with ⟨_, h0⟩ | ⟨g, cap, cur, e, _, _, hcp, _⟩
  · omega
  · injection e with e1 e2 e3
    omega
/-- append([]api.Entry{}, x...): a copy, x nil or not -/
theorem run_copyE (ty : TypeId) (w0 : World) (B : Nat) (A : Option Addr) (m c : Nat) (es : List E) (hm : m = es.length) (hr : Re w0 B A es) (hB : B ≤ w0.heap.size) (hb : m * 32 ≤ 140737488355328) :
    ∃ A' c' w', (Builtin.append_ #[32, 32] ty #[.slice (some ⟨w0.heap.size, 0, none⟩) 0 0, .slice A m c]).run Try.prog (w0.alloc (.cells #[] 26)) = .ok (.slice A' m c') w' ∧ Re w' w'.heap.size A' es ∧ Below w0.heap.size w0 w' ∧ m ≤ c' := by
  have hal : Below w0.heap.size w0 (w0.alloc (.cells #[] 26)) := bal (Below.refl _ _) (Nat.le_refl _) _
  rcases Nat.eq_zero_or_pos es.length with h0 | h0
  · have hn : es = [] := List.eq_nil_of_length_eq_zero h0
    subst hn
    have hm0 : m = 0 := by simpa using hm
    subst hm0
    cases A with
    | none =>
      obtain ⟨i0, hi, hz0, hz1, hz2⟩ := info_parts infoE
      refine ⟨some ⟨w0.heap.size, 0, none⟩, 0, _, ?_, fun h => by simp at h, hal, Nat.le_refl _⟩
      simp [Builtin.append_, run_underlying Try.underlying32, sizeOf, typeInfo, hi, Builtin.lenOf, Builtin.firstCells, storeCells]
    | some ad =>
      obtain ⟨A', c', w', hrun, ho, hbl⟩ := run_appE_any ty (w0.alloc (.cells #[] 26)) w0.heap.size (some ⟨w0.heap.size, 0, none⟩) 0 0 [] (ownE_new w0 _ _ rfl (Nat.le_refl _)) ad 0 c [] rfl (fun j u hu => by simp [flat] at hu) (by omega) (by simp)
      exact ⟨A', c', w', hrun, ho.re, hal.trans hbl, Nat.zero_le _⟩
  · obtain ⟨b, o, rfl, hbB, hc⟩ := hr h0
    obtain ⟨A', c', w', hrun, ho, hbl⟩ := run_appE ty (w0.alloc (.cells #[] 26)) w0.heap.size (some ⟨w0.heap.size, 0, none⟩) 0 0 [] (ownE_new w0 _ _ rfl (Nat.le_refl _)) b o m c es hm (fun j e he => (hc j e he).below hal (by omega)) (by omega) (by simp)
    rw [Nat.zero_add] at hrun ho
    exact ⟨A', c', w', hrun, ho.re, hal.trans hbl, ho.cap⟩
end Go.Proofs.Ytjcpdhekilkhgaa.Bkw
