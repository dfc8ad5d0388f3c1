/- Contracts and words on which the claims of this seat stand, part 24: RowH. -/
import Derived.Test.YtfblnomkafimhaaGreatG07
set_option linter.unusedSimpArgs false
set_option linter.unusedVariables false
namespace Go.Proofs.YtfblnomkafimhaaGreat
set_option maxRecDepth 20000
open Go.RowKit
namespace Rg
variable {α : Type} {K : Kind α}
theorem run_appG_g (ty : TypeId) (w : World) (base : Nat) (A0 : Option Addr) (n0 c0 : Nat) (xs0 : List α) (hown : OwnG K w base A0 n0 c0 xs0) (B : Nat) (A : Option Addr) (m c : Nat) (xs : List α) (hm : m = xs.length)
    (hr : Rs K w B A xs) (hb : (n0 + m) * K.bytes ≤ 140737488355328) (hbase : base ≤ w.heap.size) :
    ∃ A' c' w', (Builtin.append_ #[K.S, K.S] ty #[.slice A0 n0 c0, .slice A m c]).run Tryz.prog w = .ok (.slice A' (n0 + m) c') w' ∧ OwnG K w' base A' (n0 + m) c' (xs0 ++ xs) ∧ Below base w w' ∧ w.grownBy w' (Value.slice A0 n0 c0).ownBlock := by
  obtain ⟨i0, hi, hz0, hz1, hz2⟩ := info_parts K.info
  have hbig : n0 + m ≤ 140737488355328 := Nat.le_trans (Nat.le_mul_of_pos_right _ K.bpos) hb
  have hlen : n0 + m = (xs0 ++ xs).length := by rw [List.length_append, hown.1, hm]
  have some_case : ∀ ad : Addr, A = some ad → (∀ j u, (flat K xs)[j]? = some u → w.cell? (ad.add j) = some u) → ∃ A' c' w', (Builtin.append_ #[K.S, K.S] ty #[.slice A0 n0 c0, .slice A m c]).run Tryz.prog w = .ok (.slice A' (n0 + m) c') w' ∧ OwnG K w' base A' (n0 + m) c' (xs0 ++ xs) ∧ Below base w w' ∧ w.grownBy w' (Value.slice A0 n0 c0).ownBlock := by
    rintro ad rfl hc
    obtain ⟨v', w', hrun, ho, hg, _⟩ := run_append_own (P := Tryz.prog) _ base K.S ty K.T i0 _ K.k K.bytes K.und hi hz0 hz1 hz2 K.zs K.kpos _ n0 (flat K xs0) hown.2 ad m c (flat K xs) (by rw [flat_len, hm])
      hc (flat_one K xs) (by unfold maxLen; omega) hb hbase
    have hbl : Below base w w' := (Below.refl _ _).grown hg hbase (fun k hk => (hown.2.lt k hk).1)
    have hfl : flat K xs0 ++ flat K xs = flat K (xs0 ++ xs) := by unfold flat; rw [List.flatMap_append]
    rw [hfl] at ho
    rcases ho.2 with ⟨rfl, h0⟩ | ⟨g, cap, cur, rfl, _⟩
    · rw [h0] at ho hlen ⊢
      exact ⟨none, 0, w', hrun, ⟨hlen, ho⟩, hbl, hg⟩
    · exact ⟨_, _, w', hrun, ⟨hlen, ho⟩, hbl, hg⟩
  rcases Nat.eq_zero_or_pos xs.length with h0 | h0
  · have hn : xs = [] := List.eq_nil_of_length_eq_zero h0
    subst hn
    have hm0 : m = 0 := by simpa using hm
    subst hm0
    cases A with
    | none =>
      refine ⟨A0, c0, w, ?_, by simpa using hown, Below.refl _ _, ⟨rfl, rfl, rfl, Nat.le_refl _, fun _ _ _ => rfl⟩⟩
      rcases hown.2.2 with ⟨hv, hnn⟩ | ⟨g, cap, cur, hv, _, _, hnc, _⟩
      · injection hv with h1 h2 h3
        subst h1
        subst h3
        subst hnn
        simp [Builtin.append_, run_underlying K.und, sizeOf, typeInfo, hi, Builtin.lenOf, Builtin.firstCells]
      · injection hv with h1 h2 h3
        subst h1
        subst h3
        simp [Builtin.append_, run_underlying K.und, sizeOf, typeInfo, hi, Builtin.lenOf, Builtin.firstCells, hnc, storeCells]
    | some ad => exact some_case ad rfl (fun j u hu => by simp [flat] at hu)
  · obtain ⟨b, o, rfl, _, hc⟩ := hr h0
    exact some_case ⟨b, o, none⟩ rfl (fun j u hu => by
      rw [add_at]
      obtain ⟨k, i, v, hv, hi, rfl, h⟩ := flat_get K xs j u hu
      rw [← Nat.add_assoc]
      exact hc k v hv i u h)
theorem op_appGg {w : World} {o : Oper} {a : Act} {Kn : Act → World → Prop} {Q : Exit → Act → World → Prop} (s x : Operand)
    (ho : o.op = .call { callee := .builtin .append, args := #[s, x], argTypes := #[K.S, K.S] })
    (base : Nat) (A0 : Option Addr) (n0 c0 : Nat) (xs0 : List α) (hs : a.eval s = .slice A0 n0 c0) (hown : OwnG K w base A0 n0 c0 xs0)
    (B : Nat) (A : Option Addr) (m c : Nat) (xs : List α) (hx : a.eval x = .slice A m c) (hm : m = xs.length)
    (hr : Rs K w B A xs) (hb : (n0 + m) * K.bytes ≤ 140737488355328) (hbase : base ≤ w.heap.size)
    (h : ∀ A' c' w', OwnG K w' base A' (n0 + m) c' (xs0 ++ xs) → Below base w w' → w.grownBy w' (Value.slice A0 n0 c0).ownBlock → Kn (a.put o.dst (.slice A' (n0 + m) c')) w') : o.wp Tryz.prog a w Kn Q := by
  obtain ⟨A', c', w', hrun, h2, h3, h4⟩ := run_appG_g o.type w base A0 n0 c0 xs0 hown B A m c xs hm hr hb hbase
  unfold Oper.wp execOp
  simp only [ho, resolve, invoke, builtin, Sem.run_bind, Sem.run_pure, Result.andThen_ok, List.map_toArray, List.map_cons, List.map_nil, hs, hx, hrun]
  exact h A' c' w' h2 h3 h4
theorem wp_appGg {w : World} {ops : Array Oper} {rest : List Oper} {o : Oper} {a : Act} {Q : Exit → Act → World → Prop} (hgd : o.guard = none) (s x : Operand)
    (ho : o.op = .call { callee := .builtin .append, args := #[s, x], argTypes := #[K.S, K.S] })
    (base : Nat) (A0 : Option Addr) (n0 c0 : Nat) (xs0 : List α) (hs : a.eval s = .slice A0 n0 c0) (hown : OwnG K w base A0 n0 c0 xs0)
    (B : Nat) (A : Option Addr) (m c : Nat) (xs : List α) (hx : a.eval x = .slice A m c) (hm : m = xs.length)
    (hr : Rs K w B A xs) (hb : (n0 + m) * K.bytes ≤ 140737488355328) (hbase : base ≤ w.heap.size)
    (h : ∀ A' c' w', OwnG K w' base A' (n0 + m) c' (xs0 ++ xs) → Below base w w' → w.grownBy w' (Value.slice A0 n0 c0).ownBlock → wpList Tryz.prog ops Q rest (a.put o.dst (.slice A' (n0 + m) c')) w') : wpList Tryz.prog ops Q (o :: rest) a w :=
  wpList_plain hgd fun _ hK => op_appGg s x ho base A0 n0 c0 xs0 hs hown B A m c xs hx hm hr hb hbase fun A' c' w' h1 h2 h3 => hK _ _ (h A' c' w' h1 h2 h3)
/-- rows of unlike elements lie in unlike blocks -/
theorem rows_apart {w w' : World} {base base' k k' : Nat} {e e' : TypeId} {v v' : Value} {n n' : Nat} {xs xs' : List Value} (h : w.ownsRow base e k v n xs) (h' : w.ownsRow base' e' k' v' n' xs') (hne : e ≠ e') (hg : w.grownBy w' v'.ownBlock) : w'.ownsRow base e k v n xs := by
  refine h.kept hg ?_
  rcases h.2 with ⟨rfl, _⟩ | ⟨g, cap, cur, rfl, _, hh, _⟩
  · exact Or.inl rfl
  · right
    rcases h'.2 with ⟨rfl, _⟩ | ⟨g', cap', cur', rfl, _, hh', _⟩
    · simp [Value.ownBlock]
    · simp only [Value.ownBlock, ne_eq, Option.some.injEq]
      rintro rfl
      rw [hh] at hh'
      simp only [Option.some.injEq, Obj.cells.injEq] at hh'
      exact hne hh'.2.1
/-- a block of other cells stays -/
theorem blk_apart {w w' : World} {g : Nat} {cs : Array Value} {T : TypeId} {base k : Nat} {e : TypeId} {v : Value} {n : Nat} {xs : List Value} (h : w.heap[g]? = some (.cells cs T)) (h' : w.ownsRow base e k v n xs) (hne : T ≠ e) (hg : w.grownBy w' v.ownBlock) : w'.heap[g]? = some (.cells cs T) := by
  rw [hg.block g (Array.getElem?_eq_some_iff.1 h).1 ?_]
  · exact h
  · intro hb
    rcases h'.2 with ⟨rfl, _⟩ | ⟨g', cap', cur', rfl, _, hh', _⟩
    · simp [Value.ownBlock] at hb
    · simp only [Value.ownBlock, Option.some.injEq] at hb
      subst hb
      rw [h] at hh'
      simp only [Option.some.injEq, Obj.cells.injEq] at hh'
      exact hne hh'.2.1
end Rg
end Go.Proofs.YtfblnomkafimhaaGreat
