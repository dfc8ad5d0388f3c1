/- Words for memory: a disk of package disk as it landed (a block of five cells, and a row of its own that holds its bytes). -/
import Derived.Test.YtgcmejhgfdipkaaDkX
import Derived.Laws.CopyOwn
import Derived.Deep.RegionLaw
namespace Go.Proofs.Ytgcmejhgfdipkaa.Dkw
open Go.RowKit
open Dk

/-- a disk's block -/
def Dy (w : World) (g : Nat) (A : Option Addr) (n c : Nat) (s r f : Int) (o : Bool) : Prop := w.heap[g]? = some (.cells #[.slice A n c, .int .i64 s, .int .i64 r, .int .i64 f, .bool o] 50)
section
variable {w : World} {g : Nat} {A : Option Addr} {n c : Nat} {s r f : Int} {o : Bool}
theorem Dy.c0 (h : Dy w g A n c s r f o) : w.cell? ⟨g, 0, none⟩ = some (.slice A n c) := by rw [cell_of_row _ _ _ _ _ _ h]; rfl
theorem Dy.c1 (h : Dy w g A n c s r f o) : w.cell? ⟨g, 1, none⟩ = some (.int .i64 s) := by rw [cell_of_row _ _ _ _ _ _ h]; rfl
theorem Dy.c2 (h : Dy w g A n c s r f o) : w.cell? ⟨g, 2, none⟩ = some (.int .i64 r) := by rw [cell_of_row _ _ _ _ _ _ h]; rfl
theorem Dy.c3 (h : Dy w g A n c s r f o) : w.cell? ⟨g, 3, none⟩ = some (.int .i64 f) := by rw [cell_of_row _ _ _ _ _ _ h]; rfl
theorem Dy.c4 (h : Dy w g A n c s r f o) : w.cell? ⟨g, 4, none⟩ = some (.bool o) := by rw [cell_of_row _ _ _ _ _ _ h]; rfl
theorem Dy.lt (h : Dy w g A n c s r f o) : g < w.heap.size := by
  rcases Nat.lt_or_ge g w.heap.size with h' | h'
  · exact h'
  · unfold Dy at h; rw [Array.getElem?_eq_none h'] at h; cases h
theorem Dy.all {w' : World} (h : Dy w g A n c s r f o) (hb : Below w.heap.size w w') : Dy w' g A n c s r f o := (hb.block g h.lt).trans h
theorem Dy.put1 (h : Dy w g A n c s r f o) (i : Nat) (u : Value) : (w.setCell ⟨g, i, none⟩ u).heap[g]? = some (.cells (#[.slice A n c, .int .i64 s, .int .i64 r, .int .i64 f, .bool o].setIfInBounds i u) 50) := heap_setCell_same w g i _ _ _ h
theorem Dy.setA (h : Dy w g A n c s r f o) (A' : Option Addr) (n' c' : Nat) : Dy (w.setCell ⟨g, 0, none⟩ (.slice A' n' c')) g A' n' c' s r f o := by unfold Dy; rw [h.put1]; rfl
theorem Dy.setS (h : Dy w g A n c s r f o) (x : Int) : Dy (w.setCell ⟨g, 1, none⟩ (.int .i64 x)) g A n c x r f o := by unfold Dy; rw [h.put1]; rfl
theorem Dy.setR (h : Dy w g A n c s r f o) (x : Int) : Dy (w.setCell ⟨g, 2, none⟩ (.int .i64 x)) g A n c s x f o := by unfold Dy; rw [h.put1]; rfl
theorem Dy.setF (h : Dy w g A n c s r f o) (x : Int) : Dy (w.setCell ⟨g, 3, none⟩ (.int .i64 x)) g A n c s r x o := by unfold Dy; rw [h.put1]; rfl
theorem Dy.setO (h : Dy w g A n c s r f o) (x : Bool) : Dy (w.setCell ⟨g, 4, none⟩ (.bool x)) g A n c s r f x := by unfold Dy; rw [h.put1]; rfl
end
/-- the blocks of a disk: its own, and that of its bytes -/
def Fs (g : Nat) (v : Value) (k : Nat) : Prop := k = g ∨ v.ownBlock = some k
/-- what package disk has of every disk -/
def Fits (d : D) : Prop := Iv d ∧ True
/-- the value p leads to a disk in state d, whose blocks are F -/
def Dd (w : World) (F : Nat → Prop) (p : Value) (d : D) : Prop :=
  ∃ g A n c, p = .pointer (some ⟨g, 0, none⟩) ∧ Dy w g A n c d.safe d.room d.fuse d.off ∧ Own w 0 A n c d.data ∧ (∀ k, F k ↔ Fs g (.slice A n c) k) ∧ Fits d
theorem own_ne {w : World} {g b : Nat} {A : Option Addr} {n c m : Nat} {s r f : Int} {o : Bool} {A2 : Option Addr} {n2 c2 : Nat} {bs : List UInt8} (h : Dy w g A n c s r f o) (ho : Own w m A2 n2 c2 bs) (hb : (Value.slice A2 n2 c2).ownBlock = some b) : b ≠ g := by
  rintro rfl
  rcases ho.2.2 with ⟨hv, _⟩ | ⟨g', cap, cur, hv, _, hh, _⟩
  · rw [hv] at hb; simp [Value.ownBlock] at hb
  · rw [hv] at hb
    simp only [Value.ownBlock, Option.some.injEq] at hb
    subst hb
    unfold Dy at h
    rw [hh] at h
    simp only [Option.some.injEq, Obj.cells.injEq] at h
    exact absurd h.2.1 (by decide)
theorem Dd.lt {w : World} {F : Nat → Prop} {p : Value} {d : D} (h : Dd w F p d) : ∀ k, F k → k < w.heap.size := by
  obtain ⟨g, A, n, c, rfl, hy, ho, hF, _⟩ := h
  intro k hk
  rcases (hF k).1 hk with h1 | h1
  · subst h1; exact hy.lt
  · exact (ho.2.lt k h1).2
theorem Dd.iv {w : World} {F : Nat → Prop} {p : Value} {d : D} (h : Dd w F p d) : Iv d := by
  obtain ⟨g, A, n, c, rfl, hy, ho, hF, h1, _⟩ := h
  exact h1
theorem Dd.ptr {w : World} {F : Nat → Prop} {p : Value} {d : D} (h : Dd w F p d) : ∃ a, p = .pointer (some a) := by
  obtain ⟨g, A, n, c, rfl, _⟩ := h
  exact ⟨_, rfl⟩
/-- a row of one's own stays if its block does -/
theorem own_keep {w w' : World} {base : Nat} {A : Option Addr} {n c : Nat} {bs : List UInt8} (h : Own w base A n c bs) (hk : ∀ k, (Value.slice A n c).ownBlock = some k → w'.heap[k]? = w.heap[k]?) : Own w' base A n c bs := by
  refine ⟨h.1, h.2.1, ?_⟩
  rcases h.2.2 with h0 | ⟨g, cap, cur, hv, hg, hh, r⟩
  · exact .inl h0
  · refine .inr ⟨g, cap, cur, hv, hg, ?_, r⟩
    rw [← hh]
    exact hk g (by rw [hv]; rfl)
theorem Dd.keep {w w' : World} {F : Nat → Prop} {p : Value} {d : D} (h : Dd w F p d) (_hs : w.heap.size ≤ w'.heap.size) (hk : ∀ k, F k → w'.heap[k]? = w.heap[k]?) : Dd w' F p d := by
  obtain ⟨g, A, n, c, rfl, hy, ho, hF, hi⟩ := h
  exact ⟨g, A, n, c, rfl, (hk g ((hF g).2 (Or.inl rfl))).trans hy, own_keep ho (fun k h1 => hk k ((hF k).2 (Or.inr h1))), hF, hi⟩
/-- answered, with the disk in another state -/
def RetK (w : World) (F : Nat → Prop) (p : Value) (d : D) (v : Value) (e : Ending) (w' : World) : Prop := ∃ F', e = .returned v ∧ Dd w' F' p d ∧ Gw F F' w w'
/-- a row of one's own, cut -/
theorem own_cut {w : World} {base : Nat} {A : Option Addr} {n c : Nat} {bs : List UInt8} (h : Own w base A n c bs) (k : Nat) (hk : k ≤ n) : Own w base A k c (bs.take k) := by
  refine ⟨by rw [List.length_take, ← h.1]; omega, by simp [← h.1]; omega, ?_⟩
  rcases h.2.2 with ⟨h0, h1⟩ | ⟨g, cap, cur, hv, hg, hh, hnc, hm, hs, ht⟩
  · left
    injection h0 with e1 e2 e3
    have : k = 0 := by omega
    subst this
    exact ⟨by rw [e1, e3], rfl⟩
  · right
    injection hv with e1 e2 e3
    refine ⟨g, cap, cur, by rw [e1, e3], hg, hh, by omega, hm, hs, ?_⟩
    rw [List.map_take, ← ht, List.take_take]
    congr 1
    omega
theorem fs_cut (g : Nat) (A : Option Addr) (n c n' c' : Nat) : Fs g (.slice A n c) = Fs g (.slice A n' c') := by
  unfold Fs
  cases A <;> rfl
/-- the disk's own block is stored to: its row stays -/
theorem own_put {w : World} {g i m : Nat} {A : Option Addr} {n c : Nat} {s r f : Int} {o : Bool} {A2 : Option Addr} {n2 c2 : Nat} {bs : List UInt8} (h : Dy w g A n c s r f o) (ho : Own w m A2 n2 c2 bs) (u : Value) : Own (w.setCell ⟨g, i, none⟩ u) m A2 n2 c2 bs :=
  own_keep ho (fun k hk => Below.heap_setCell w ⟨g, i, none⟩ u k (own_ne h ho hk))
/-- append onto a disk's row: the row grows where it lies, or lies in a new block -/
theorem run_appK (w : World) (ty : TypeId) (A : Option Addr) (n c : Nat) (bs : List UInt8) (hown : Own w 0 A n c bs) (B : Nat) (A2 : Option Addr) (m c2 : Nat) (news : List UInt8) (hm : m = news.length) (hr : Rd w B A2 (news.map B8)) (hb : n + m ≤ big) :
    ∃ A' c' w', (Builtin.append_ #[27, 27] ty #[.slice A n c, .slice A2 m c2]).run Try.prog w = .ok (.slice A' (n + m) c') w' ∧ Own w' 0 A' (n + m) c' (bs ++ news) ∧ w.grownBy w' (Value.slice A n c).ownBlock ∧ (A' = A ∨ ∃ b, A' = some ⟨b, 0, none⟩ ∧ w.heap.size ≤ b) := by
  obtain ⟨i0, hi, hz0, hz1, hz2⟩ := info_parts info8
  have key : ∀ base, base ≤ w.heap.size → w.ownsRow base 5 1 (.slice A n c) n (bs.map B8) → ∃ A' c' w', (Builtin.append_ #[27, 27] ty #[.slice A n c, .slice A2 m c2]).run Try.prog w = .ok (.slice A' (n + m) c') w' ∧ w'.ownsRow base 5 1 (.slice A' (n + m) c') (n + m) ((bs ++ news).map B8) ∧ w.grownBy w' (Value.slice A n c).ownBlock := by
    intro base hbase ho
    obtain ⟨A', c', w', h1, h2, _, h4⟩ := run_app (P := Try.prog) w base 27 ty 5 i0 (.int .u8 0) 1 Try.underlying27 hi hz0 hz1 hz2 rfl (.slice A n c) n (bs.map B8) ho B A2 m c2 (news.map B8) (by simpa using hm) hr (B8_one news) (by unfold big at hb; unfold maxLen; omega) (by unfold big at hb; omega) hbase
    exact ⟨A', c', w', h1, by rw [List.map_append]; exact h2, h4⟩
  have hlen : n + m = (bs ++ news).length := by rw [List.length_append, ← hown.1, ← hm]
  rcases hown.2.2 with ⟨h0, h0n⟩ | ⟨g, cap, cur, hv, hbg, hg, hnc, hcm, hcs, htake⟩
  · obtain ⟨A', c', w', h1, h2, h3⟩ := key w.heap.size (Nat.le_refl _) ⟨hown.2.1, .inl ⟨h0, h0n⟩⟩
    refine ⟨A', c', w', h1, ⟨hlen, own_base h2 (Nat.zero_le _)⟩, h3, ?_⟩
    rcases h2.2 with ⟨h4, _⟩ | ⟨g, cap, cur, hv, hbg, _⟩
    · injection h4 with e1
      injection h0 with e2
      left; rw [e1, e2]
    · injection hv with e1
      exact Or.inr ⟨g, e1, hbg⟩
  · obtain ⟨A', c', w', h1, h2, h3⟩ := key 0 (Nat.zero_le _) hown.2
    refine ⟨A', c', w', h1, ⟨hlen, h2⟩, h3, ?_⟩
    injection hv with e1 e2 e3
    subst e1
    subst e3
    cases A2 with
    | none =>
      have hm0 : m = 0 := by
        cases news with
        | nil => simpa using hm
        | cons x y => obtain ⟨b, o, h, _⟩ := hr (by simp); cases h
      subst hm0
      left
      have h5 : (Builtin.append_ #[27, 27] ty #[.slice (some ⟨g, 0, none⟩) n c, .slice none 0 c2]).run Try.prog w = .ok (.slice (some ⟨g, 0, none⟩) n c) w := by
        simp [Builtin.append_, run_underlying Try.underlying27, sizeOf, typeInfo, hi, Builtin.lenOf, Builtin.firstCells, hnc, storeCells]
      rw [h5] at h1
      injection h1 with e4
      injection e4 with e4
      exact e4.symm
    | some ad =>
      have hcell : ∀ j u, (news.map B8)[j]? = some u → w.cell? (ad.add j) = some u := by
        intro j u hu
        have hp : 0 < (news.map B8).length := by
          rcases Nat.eq_zero_or_pos (news.map B8).length with h | h
          · rw [List.eq_nil_of_length_eq_zero h] at hu; cases hu
          · exact h
        obtain ⟨b, o, e, _, hc⟩ := hr hp
        injection e with e
        subst e
        have := hc j u hu
        rw [Addr.add_lit]
        exact this
      by_cases hroom : n + m ≤ c
      · left
        obtain ⟨w2, h5, _⟩ := run_append_fits (P := Try.prog) w 0 27 ty 5 i0 1 Try.underlying27 hi hz1 g n c (bs.map B8) hown.2 ad m c2 (news.map B8) (by simp [hm]) hcell (B8_one news) hroom
        rw [h5] at h1
        injection h1 with e4
        injection e4 with e4
        exact e4.symm
      · right
        have holds : ∀ j u, (bs.map B8)[j]? = some u → w.cell? ((⟨g, 0, none⟩ : Addr).add j) = some u := hown.2.cells (g := g) rfl
        have h5 := run_append_grow (P := Try.prog) w 27 ty 5 i0 (.int .u8 0) Try.underlying27 hi hz0 ⟨g, 0, none⟩ n c (bs.map B8) (by rw [hz1]; exact hown.2.1) holds ad m c2 (news.map B8) (by rw [hz1]; simp [hm]) hcell (by omega) (by unfold big at hb; omega) (by rw [hz2]; exact growslice_fits (by omega) (by unfold big at hb; omega))
        rw [h5] at h1
        injection h1 with e4
        injection e4 with e4
        exact ⟨_, e4.symm, Nat.le_refl _⟩
theorem op_appK {w : World} {o : Oper} {a : Act} {K : Act → World → Prop} {Q : Exit → Act → World → Prop} (s x : Operand)
    (ho : o.op = .call { callee := .builtin .append, args := #[s, x], argTypes := #[27, 27] })
    (A : Option Addr) (n c : Nat) (bs : List UInt8) (hs : a.eval s = .slice A n c) (hown : Own w 0 A n c bs)
    (B : Nat) (A2 : Option Addr) (m c2 : Nat) (news : List UInt8) (hx : a.eval x = .slice A2 m c2) (hm : m = news.length) (hr : Rd w B A2 (news.map B8)) (hb : n + m ≤ big)
    (h : ∀ A' c' w', Own w' 0 A' (n + m) c' (bs ++ news) → w.grownBy w' (Value.slice A n c).ownBlock → (A' = A ∨ ∃ b, A' = some ⟨b, 0, none⟩ ∧ w.heap.size ≤ b) → K (a.put o.dst (.slice A' (n + m) c')) w') : o.wp Try.prog a w K Q := by
  obtain ⟨A', c', w', hrun, h2, h3, h4⟩ := run_appK w o.type A n c bs hown B A2 m c2 news hm hr hb
  unfold Oper.wp execOp
  simp only [ho, resolve, invoke, builtin, Sem.run_bind, Sem.run_pure, Result.andThen_ok, List.map_toArray, List.map_cons, List.map_nil, hs, hx, hrun]
  exact h A' c' w' h2 h3 h4
theorem wp_appK {w : World} {ops : Array Oper} {rest : List Oper} {o : Oper} {a : Act} {Q : Exit → Act → World → Prop} (hgd : o.guard = none) (s x : Operand)
    (ho : o.op = .call { callee := .builtin .append, args := #[s, x], argTypes := #[27, 27] })
    (A : Option Addr) (n c : Nat) (bs : List UInt8) (hs : a.eval s = .slice A n c) (hown : Own w 0 A n c bs)
    (B : Nat) (A2 : Option Addr) (m c2 : Nat) (news : List UInt8) (hx : a.eval x = .slice A2 m c2) (hm : m = news.length) (hr : Rd w B A2 (news.map B8)) (hb : n + m ≤ big)
    (h : ∀ A' c' w', Own w' 0 A' (n + m) c' (bs ++ news) → w.grownBy w' (Value.slice A n c).ownBlock → (A' = A ∨ ∃ b, A' = some ⟨b, 0, none⟩ ∧ w.heap.size ≤ b) → wpList Try.prog ops Q rest (a.put o.dst (.slice A' (n + m) c')) w') : wpList Try.prog ops Q (o :: rest) a w :=
  wpList_plain hgd fun _ hK => op_appK s x ho A n c bs hs hown B A2 m c2 news hx hm hr hb fun A' c' w' h1 h2 h3 => hK _ _ (h A' c' w' h1 h2 h3)
theorem Gw.trans {F F1 F2 : Nat → Prop} {w w1 w2 : World} (h : Gw F F1 w w1) (h2 : Gw F1 F2 w1 w2) : Gw F F2 w w2 := by
  refine ⟨⟨h2.1.os.trans h.1.os, h2.1.tape.trans h.1.tape, h2.1.output.trans h.1.output, Nat.le_trans h.1.size h2.1.size, fun k hk hf => ?_⟩, fun k hk => ?_⟩
  · refine (h2.1.block k (Nat.lt_of_lt_of_le hk h.1.size) (fun h3 => ?_)).trans (h.1.block k hk hf)
    rcases h.2 k h3 with h4 | h4
    · exact hf h4
    · omega
  · rcases h2.2 k hk with h3 | h3
    · exact h.2 k h3
    · exact Or.inr (Nat.le_trans h.1.size h3)
theorem RetK.trans {F F1 : Nat → Prop} {w w1 w2 : World} {p : Value} {d : D} {v : Value} {e : Ending} (h : Gw F F1 w w1) (h2 : RetK w1 F1 p d v e w2) : RetK w F p d v e w2 := by
  obtain ⟨F2, he, hd, hg⟩ := h2
  exact ⟨F2, he, hd, h.trans hg⟩
theorem Gw.of_below {F : Nat → Prop} {w w' : World} (h : Below w.heap.size w w') : Gw F F w w' := ⟨Kp.of_below h, fun _ h => Or.inl h⟩
theorem run_head (A : Option Addr) (n c k : Nat) (j : Int) (q : IntKind) (hj : j = (k : Int)) (hk : k ≤ c) (w : World) : (Instr.slice 27 (.slice A n c) none (some (.int q j)) none).run Try.prog w = .ok (.slice A k c) w := by
  subst hj
  have he : Try.prog.elem 27 = 5 := by simp [Program.elem, Try.underlying27]
  rw [run_slice_h (P := Try.prog) w 27 A n c (by rw [he]; exact Try.underlying27) q k (by omega) (by omega), he, size8]
  simp [Result.andThen, sliced]
  intro _
  cases A <;> simp [Addr.add]
/-- make([]byte, n) -/
theorem run_mk (n : Nat) (hn : n ≤ 60000) (w : World) : (Instr.makeSlice 27 (.int .i64 (n : Int)) (.int .i64 (n : Int))).run Try.prog w = .ok (.slice (some ⟨w.heap.size, 0, none⟩) n n) (w.alloc (.cells (List.replicate n (Value.int .u8 0)).toArray 5)) := by
  obtain ⟨i0, hi, hz0, hz1, hz2⟩ := info_parts info8
  rw [run_make (P := Try.prog) w 27 5 i0 (.int .u8 0) Try.underlying27 hi hz0 .i64 .i64 n n (by omega) (Int.le_refl _) (by rw [hz2]; omega) (by omega)]
  have h1 : madeCells (Value.int .u8 0).cells ((n : Int).toNat * i0.size) = (List.replicate n (Value.int .u8 0)).toArray := by
    rw [hz1]
    apply Array.toList_inj.1
    rw [show (Value.int .u8 0).cells = #[Value.int .u8 0] from rfl, toList_madeCells_one]
    simp
  rw [h1]
  simp
theorem step_appK {ops : Array Oper} {o : Oper} {a : Act} {w : World} {K : Act → World → Prop} {Q : Exit → Act → World → Prop} {E : Prop} (hgd : o.guard = none) (s x : Operand)
    (ho : o.op = .call { callee := .builtin .append, args := #[s, x], argTypes := #[27, 27] })
    (A : Option Addr) (n c : Nat) (bs : List UInt8) (hs : a.eval s = .slice A n c) (hown : Own w 0 A n c bs)
    (B : Nat) (A2 : Option Addr) (m c2 : Nat) (news : List UInt8) (hx : a.eval x = .slice A2 m c2) (hm : m = news.length) (hr : Rd w B A2 (news.map B8)) (hb : n + m ≤ big)
    (h : ∀ A' c' w', Own w' 0 A' (n + m) c' (bs ++ news) → w.grownBy w' (Value.slice A n c).ownBlock → (A' = A ∨ ∃ b, A' = some ⟨b, 0, none⟩ ∧ w.heap.size ≤ b) → K (a.put o.dst (.slice A' (n + m) c')) w') :
    if Region.wanted o (yielded ops a.tmps) = true then Oper.wp Try.prog o a w K Q else E := by
  have hw : Region.wanted o (yielded ops a.tmps) = true := by simp [Region.wanted, hgd]
  rw [if_pos hw]
  exact op_appK s x ho A n c bs hs hown B A2 m c2 news hx hm hr hb h
/-- answered, the row where it was -/
theorem ret_same {w w' : World} {F : Nat → Prop} {g : Nat} {A : Option Addr} {n c n' c' : Nat} {d' : D} (v : Value) (hF : ∀ k, F k ↔ Fs g (.slice A n c) k) (hk : Kp F w w') (hy : Dy w' g A n' c' d'.safe d'.room d'.fuse d'.off) (ho : Own w' 0 A n' c' d'.data) (hi : Fits d') : RetK w F (.pointer (some ⟨g, 0, none⟩)) d' v (.returned v) w' :=
  ⟨F, rfl, ⟨g, A, n', c', rfl, hy, ho, by rw [fs_cut g A n' c' n c]; exact hF, hi⟩, hk, fun _ h => Or.inl h⟩
theorem after_app {w w1 w2 : World} {F : Nat → Prop} {g : Nat} {A : Option Addr} {m c : Nat} {s r f : Int} {o : Bool} {A' : Option Addr} {n' c' : Nat} {bs : List UInt8} (hF : ∀ k, F k ↔ Fs g (.slice A m c) k) (hk : Kp F w w1) (hy : Dy w1 g A m c s r f o) (ho1 : Own w1 0 A m c bs) (hg : w1.grownBy w2 (Value.slice A m c).ownBlock) (hA : A' = A ∨ ∃ b, A' = some ⟨b, 0, none⟩ ∧ w1.heap.size ≤ b) :
    Dy w2 g A m c s r f o ∧ Gw F (Fs g (.slice A' n' c')) w w2 := by
  have hkg : Kp F w1 w2 := ⟨hg.os, hg.tape, hg.output, hg.size, fun k hk hf => hg.block k hk (fun e => hf ((hF k).2 (Or.inr e.symm)))⟩
  refine ⟨(hg.block g hy.lt (fun e => own_ne hy ho1 e.symm rfl)).trans hy, ?_⟩
  have h1 : Gw F F w w1 := ⟨hk, fun _ h => Or.inl h⟩
  refine h1.trans ⟨hkg, fun k hk2 => ?_⟩
  rcases hk2 with rfl | h2
  · exact Or.inl ((hF _).2 (Or.inl rfl))
  · rcases hA with rfl | ⟨b, rfl, hb⟩
    · left
      refine (hF k).2 (Or.inr ?_)
      rw [← h2]
      cases A' <;> rfl
    · right
      simp only [Value.ownBlock, Option.some.injEq] at h2
      omega
theorem fs_own {F : Nat → Prop} {g : Nat} {A : Option Addr} {n c : Nat} (hF : ∀ k, F k ↔ Fs g (.slice A n c) k) : F g := (hF g).2 (Or.inl rfl)
theorem fits_new (r : Int) : Fits (newD r) := ⟨iv_new r, trivial⟩
theorem fits_fuse (d : D) (n : Int) (hn : n ≤ 9223372036854775807) (h : Fits d) : Fits (fuseD d n) := ⟨iv_fuse d n hn h.1, trivial⟩
theorem fits_limit (d : D) (r : Int) (h : Fits d) : Fits (limit d r) := ⟨iv_limit d r h.1, trivial⟩
theorem fits_sync (d : D) (h : Fits d) : Fits (syncD d) := ⟨iv_sync d h.1, trivial⟩
theorem fits_crash (d : D) (n : Int) (h : Fits d) : Fits (crashD d n) := ⟨iv_crash d n h.1, trivial⟩
theorem fits_cut (d : D) (n : Int) (h : Fits d) : Fits (cutD d n) := ⟨iv_cut d n h.1, trivial⟩
theorem fits_app (d : D) (b : List UInt8) (h : Fits d) : Fits (appD d b) := ⟨iv_app d b h.1, trivial⟩
end Go.Proofs.Ytgcmejhgfdipkaa.Dkw
