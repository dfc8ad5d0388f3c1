/- Contracts and words on which the claims of this seat stand, part 24: RowH MsT MsU. -/
import Derived.Test.YtldfccllpnplmaaG01
import Derived.Test.YtldfccllpnplmaaG02
import Derived.Test.YtldfccllpnplmaaG03
import Derived.Test.YtldfccllpnplmaaG07
import Derived.Test.YtldfccllpnplmaaG23
set_option linter.unusedSimpArgs false
set_option linter.unusedVariables false
namespace Go.Proofs.Ytldfccllpnplmaa
set_option maxRecDepth 20000
open Go.RowKit
namespace Rg
variable {α : Type} {K : Kind α}
theorem run_appG_g (ty : TypeId) (w : World) (base : Nat) (A0 : Option Addr) (n0 c0 : Nat) (xs0 : List α) (hown : OwnG K w base A0 n0 c0 xs0) (B : Nat) (A : Option Addr) (m c : Nat) (xs : List α) (hm : m = xs.length)
    (hr : Rs K w B A xs) (hb : (n0 + m) * K.bytes ≤ 140737488355328) (hbase : base ≤ w.heap.size) :
    ∃ A' c' w', (Builtin.append_ #[K.S, K.S] ty #[.slice A0 n0 c0, .slice A m c]).run Try.prog w = .ok (.slice A' (n0 + m) c') w' ∧ OwnG K w' base A' (n0 + m) c' (xs0 ++ xs) ∧ Below base w w' ∧ w.grownBy w' (Value.slice A0 n0 c0).ownBlock := by
  obtain ⟨i0, hi, hz0, hz1, hz2⟩ := info_parts K.info
  have hbig : n0 + m ≤ 140737488355328 := Nat.le_trans (Nat.le_mul_of_pos_right _ K.bpos) hb
  have hlen : n0 + m = (xs0 ++ xs).length := by rw [List.length_append, hown.1, hm]
  have some_case : ∀ ad : Addr, A = some ad → (∀ j u, (flat K xs)[j]? = some u → w.cell? (ad.add j) = some u) → ∃ A' c' w', (Builtin.append_ #[K.S, K.S] ty #[.slice A0 n0 c0, .slice A m c]).run Try.prog w = .ok (.slice A' (n0 + m) c') w' ∧ OwnG K w' base A' (n0 + m) c' (xs0 ++ xs) ∧ Below base w w' ∧ w.grownBy w' (Value.slice A0 n0 c0).ownBlock := by
    rintro ad rfl hc
    obtain ⟨v', w', hrun, ho, hg, _⟩ := run_append_own (P := Try.prog) _ base K.S ty K.T i0 _ K.k K.bytes K.und hi hz0 hz1 hz2 K.zs K.kpos _ n0 (flat K xs0) hown.2 ad m c (flat K xs) (by rw [flat_len, hm])
      hc (flat_one K xs) (by unfold maxLen; omega) hb hbase
    have hbl : Below base w w' := (Below.refl _ _).grown hg hbase (fun k hk => (hown.2.lt k hk).1)
    have hfl : flat K xs0 ++ flat K xs = flat K (xs0 ++ xs) := by unfold flat; rw [List.flatMap_append]
    rw [hfl] at ho
    rcases ho.2 with ⟨rfl, h0⟩ | ⟨g, cap, cur, rfl, _⟩
    · rw [h0] at ho hlen ⊢
      exact ⟨none, 0, w', hrun, ⟨hlen, ho⟩, hbl, hg⟩
    · exact ⟨_, _, w', hrun, ⟨hlen, ho⟩, hbl, hg⟩
  rcases Nat.eq_zero_or_pos xs.length with h0 | h0
  · have hn : xs = [] := List.eq_nil_of_length_eq_zero h0
    subst hn
    have hm0 : m = 0 := by simpa using hm
    subst hm0
    cases A with
    | none =>
      refine ⟨A0, c0, w, ?_, by simpa using hown, Below.refl _ _, ⟨rfl, rfl, rfl, Nat.le_refl _, fun _ _ _ => rfl⟩⟩
      rcases hown.2.2 with ⟨hv, hnn⟩ | ⟨g, cap, cur, hv, _, _, hnc, _⟩
      · injection hv with h1 h2 h3
        subst h1
        subst h3
        subst hnn
        simp [Builtin.append_, run_underlying K.und, sizeOf, typeInfo, hi, Builtin.lenOf, Builtin.firstCells]
      · injection hv with h1 h2 h3
        subst h1
        subst h3
        simp [Builtin.append_, run_underlying K.und, sizeOf, typeInfo, hi, Builtin.lenOf, Builtin.firstCells, hnc, storeCells]
    | some ad => exact some_case ad rfl (fun j u hu => by simp [flat] at hu)
  · obtain ⟨b, o, rfl, _, hc⟩ := hr h0
    exact some_case ⟨b, o, none⟩ rfl (fun j u hu => by
      rw [add_at]
      obtain ⟨k, i, v, hv, hi, rfl, h⟩ := flat_get K xs j u hu
      rw [← Nat.add_assoc]
      exact hc k v hv i u h)
theorem op_appGg {w : World} {o : Oper} {a : Act} {Kn : Act → World → Prop} {Q : Exit → Act → World → Prop} (s x : Operand)
    (ho : o.op = .call { callee := .builtin .append, args := #[s, x], argTypes := #[K.S, K.S] })
    (base : Nat) (A0 : Option Addr) (n0 c0 : Nat) (xs0 : List α) (hs : a.eval s = .slice A0 n0 c0) (hown : OwnG K w base A0 n0 c0 xs0)
    (B : Nat) (A : Option Addr) (m c : Nat) (xs : List α) (hx : a.eval x = .slice A m c) (hm : m = xs.length)
    (hr : Rs K w B A xs) (hb : (n0 + m) * K.bytes ≤ 140737488355328) (hbase : base ≤ w.heap.size)
    (h : ∀ A' c' w', OwnG K w' base A' (n0 + m) c' (xs0 ++ xs) → Below base w w' → w.grownBy w' (Value.slice A0 n0 c0).ownBlock → Kn (a.put o.dst (.slice A' (n0 + m) c')) w') : o.wp Try.prog a w Kn Q := by
  obtain ⟨A', c', w', hrun, h2, h3, h4⟩ := run_appG_g o.type w base A0 n0 c0 xs0 hown B A m c xs hm hr hb hbase
  unfold Oper.wp execOp
  simp only [ho, resolve, invoke, builtin, Sem.run_bind, Sem.run_pure, Result.andThen_ok, List.map_toArray, List.map_cons, List.map_nil, hs, hx, hrun]
  exact h A' c' w' h2 h3 h4
theorem wp_appGg {w : World} {ops : Array Oper} {rest : List Oper} {o : Oper} {a : Act} {Q : Exit → Act → World → Prop} (hgd : o.guard = none) (s x : Operand)
    (ho : o.op = .call { callee := .builtin .append, args := #[s, x], argTypes := #[K.S, K.S] })
    (base : Nat) (A0 : Option Addr) (n0 c0 : Nat) (xs0 : List α) (hs : a.eval s = .slice A0 n0 c0) (hown : OwnG K w base A0 n0 c0 xs0)
    (B : Nat) (A : Option Addr) (m c : Nat) (xs : List α) (hx : a.eval x = .slice A m c) (hm : m = xs.length)
    (hr : Rs K w B A xs) (hb : (n0 + m) * K.bytes ≤ 140737488355328) (hbase : base ≤ w.heap.size)
    (h : ∀ A' c' w', OwnG K w' base A' (n0 + m) c' (xs0 ++ xs) → Below base w w' → w.grownBy w' (Value.slice A0 n0 c0).ownBlock → wpList Try.prog ops Q rest (a.put o.dst (.slice A' (n0 + m) c')) w') : wpList Try.prog ops Q (o :: rest) a w :=
  wpList_plain hgd fun _ hK => op_appGg s x ho base A0 n0 c0 xs0 hs hown B A m c xs hx hm hr hb hbase fun A' c' w' h1 h2 h3 => hK _ _ (h A' c' w' h1 h2 h3)
/-- rows of unlike elements lie in unlike blocks -/
theorem rows_apart {w w' : World} {base base' k k' : Nat} {e e' : TypeId} {v v' : Value} {n n' : Nat} {xs xs' : List Value} (h : w.ownsRow base e k v n xs) (h' : w.ownsRow base' e' k' v' n' xs') (hne : e ≠ e') (hg : w.grownBy w' v'.ownBlock) : w'.ownsRow base e k v n xs := by
  refine h.kept hg ?_
  rcases h.2 with ⟨rfl, _⟩ | ⟨g, cap, cur, rfl, _, hh, _⟩
  · exact Or.inl rfl
  · right
    rcases h'.2 with ⟨rfl, _⟩ | ⟨g', cap', cur', rfl, _, hh', _⟩
    · simp [Value.ownBlock]
    · simp only [Value.ownBlock, ne_eq, Option.some.injEq]
      rintro rfl
      rw [hh] at hh'
      simp only [Option.some.injEq, Obj.cells.injEq] at hh'
      exact hne hh'.2.1
/-- a block of other cells stays -/
theorem blk_apart {w w' : World} {g : Nat} {cs : Array Value} {T : TypeId} {base k : Nat} {e : TypeId} {v : Value} {n : Nat} {xs : List Value} (h : w.heap[g]? = some (.cells cs T)) (h' : w.ownsRow base e k v n xs) (hne : T ≠ e) (hg : w.grownBy w' v.ownBlock) : w'.heap[g]? = some (.cells cs T) := by
  rw [hg.block g (Array.getElem?_eq_some_iff.1 h).1 ?_]
  · exact h
  · intro hb
    rcases h'.2 with ⟨rfl, _⟩ | ⟨g', cap', cur', rfl, _, hh', _⟩
    · simp [Value.ownBlock] at hb
    · simp only [Value.ownBlock, Option.some.injEq] at hb
      subst hb
      rw [h] at hh'
      simp only [Option.some.injEq, Obj.cells.injEq] at hh'
      exact hne hh'.2.1
end Rg
end Go.Proofs.Ytldfccllpnplmaa

namespace Go.Proofs.Ytldfccllpnplmaa.Msw
set_option maxRecDepth 20000
open Go.RowKit
open Cl Bk Ms Clw Bkw
open Chgw (hat hbe ret_bool vw)
open Rg (bal)

/-- numbers in slices -/
theorem infoN : (Try.prog.info? 56).map (fun i => (i.zero, i.size, i.bytes)) = some (some (.int .u64 0), 1, 8) := by kernel_rfl
def KN : Kind Nat := ⟨fun n => [N64 n], 1, 56, 58, 8, .int .u64 0, fun _ => rfl, fun x u hu => by
  rw [List.mem_singleton] at hu
  subst hu
  rfl, by omega, by omega, infoN, Try.underlying58, rfl⟩
theorem rs_rd {w : World} {B : Nat} {A : Option Addr} {ns : List Nat} (h : Rg.Rs KN w B A ns) : Rd w B A (ns.map N64) := by
  intro hn
  obtain ⟨b, o, e, hb, hc⟩ := h (by simpa using hn)
  refine ⟨b, o, e, hb, fun j u hu => ?_⟩
  rw [List.getElem?_map, Option.map_eq_some_iff] at hu
  obtain ⟨x, hx, rfl⟩ := hu
  have := hc j x hx 0 (N64 x) rfl
  rwa [show KN.k = 1 from rfl, Nat.mul_one, Nat.add_zero] at this
theorem nums_new (w : World) (base g : Nat) (ns : List Nat) (hg : g = w.heap.size) (hb : base ≤ w.heap.size) (hm : ns.length ≤ maxLen) : Rg.OwnG KN (w.alloc (.cells (ns.map N64).toArray 56)) base (some ⟨g, 0, none⟩) ns.length ns.length ns := by
  subst hg
  refine ⟨rfl, ?_⟩
  have h := own_lit w base 56 (ns.map N64) hb (by simpa using hm)
  have e : Rg.flat KN ns = ns.map N64 := by unfold Rg.flat; induction ns with
    | nil => rfl
    | cons x l ih => rw [List.flatMap_cons, List.map_cons, ih (by simp at hm; omega) (by have := own_lit w base 56 (l.map N64) hb (by simp at hm ⊢; omega); exact this)]; rfl
  rw [e]
  have h2 : (w.alloc (.cells (ns.map N64).toArray 56)).ownsRow base 56 1 (.slice (some ⟨w.heap.size, 0, none⟩) ns.length ns.length) ns.length (ns.map N64) := by simpa using h
  exact h2
theorem nums_rs (w : World) (g : Nat) (ns : List Nat) (hg : g = w.heap.size) : Rg.Rs KN (w.alloc (.cells (ns.map N64).toArray 56)) (g + 1) (some ⟨g, 0, none⟩) ns := by
  subst hg
  intro _
  refine ⟨_, _, rfl, by omega, fun j x hx i u hu => ?_⟩
  have hi : i = 0 := by have := Rg.lt_cells KN hu; have h1 : KN.k = 1 := rfl; omega
  subst hi
  have hu2 : u = N64 x := (Option.some.inj hu).symm
  subst hu2
  rw [cell_of_row _ _ _ _ _ _ (heap_alloc_new w _)]
  simp only [show KN.k = 1 from rfl, Nat.mul_one, Nat.zero_add, Nat.add_zero, List.getElem?_toArray, List.getElem?_map, hx, Option.map_some]
/-- entries in slices -/
theorem infoE2 : (Try.prog.info? 52).map (fun i => (i.zero, i.size, i.bytes)) = some (some (.agg #[.int .i64 0, .int .i64 0, .int .i64 0, .float .f64 0]), 4, 32) := by kernel_rfl
def KE : Kind E := ⟨cellsE, 4, 52, 27, 32, .agg #[.int .i64 0, .int .i64 0, .int .i64 0, .float .f64 0], fun _ => rfl, fun x u hu => by
  simp only [cellsE, List.mem_cons, List.not_mem_nil, or_false] at hu
  rcases hu with rfl | rfl | rfl | rfl <;> rfl, by omega, by omega, infoE2, Try.underlying27, rfl⟩
theorem re_rs {w : World} {B : Nat} {A : Option Addr} {es : List E} (h : Re w B A es) : Rg.Rs KE w B A es := by
  intro hn
  obtain ⟨b, o, e, hb, hc⟩ := h hn
  refine ⟨b, o, e, hb, fun j x hx i u hu => ?_⟩
  exact (hc j x hx).cells i (Rg.lt_cells KE hu) u hu
theorem rs_re {w : World} {B : Nat} {A : Option Addr} {es : List E} (h : Rg.Rs KE w B A es) : Re w B A es := by
  intro hn
  obtain ⟨b, o, e, hb, hc⟩ := h hn
  exact ⟨b, o, e, hb, fun j x hx => four_of fun i u hi hu => hc j x hx i u hu⟩
theorem So.rs {w : World} {A : Option Addr} {n c : Nat} {es : List E} (h : So w A n c es) : Rg.Rs KE w w.heap.size A es := re_rs h.2.2.2.2
theorem So.own {w : World} {base : Nat} {A : Option Addr} {n c : Nat} {es : List E} (h : Rg.OwnG KE w base A n c es) (hw : ∀ e ∈ es, WfE e) (hl : es.length * 32 ≤ 140737488355328) : So w A n c es := ⟨h.1, h.cap, by rw [h.1]; exact hl, hw, rs_re h.rs⟩
/-- a copy is answered, its lists in rows of its own -/
def RetCo (w : World) (m : M) (e : Ending) (w' : World) : Prop := ∃ s t, e = .returned (mvv m s t) ∧ Rg.OwnG KC w' w.heap.size s.a s.n s.c m.cells ∧ Rg.OwnG KE w' w.heap.size t.a t.n t.c m.book ∧ Below w.heap.size w w'
theorem retCo_mo {w : World} {m : M} {s t s2 t2 : S3} {w0 : World} (h : Mo w0 m s t) {base : Nat} (h1 : Rg.OwnG KC w base s2.a s2.n s2.c m.cells) (h2 : Rg.OwnG KE w base t2.a t2.n t2.c m.book) : Mo w m s2 t2 :=
  ⟨Sc.own h1 (by have := h.1.1; have := h.1.2.2.1; omega), So.own h2 h.2.2.2.2.1 (by have := h.2.1; have := h.2.2.2.1; omega)⟩
set_option maxHeartbeats 2000000 in
theorem copy_o (m : M) (s t : S3) (w : World) (h : Mo w m s t) : Calls Try.prog 23 #[mvv m s t] w (RetCo w m) := by
  have HMO := Lib.hid h; clear h
  obtain ⟨kd, sr, ds, ic, sq, va, vd, cs, bk⟩ := m
  unfold mvv
  simp only
  go_enter Try.func23, Try.ntmps23
  go_upto_region 1 with (fail)
  have HX := Lib.hid (show Mx ((w.alloc (.cells #[.int .i64 kd, .int .i64 sr, .int .i64 ds, .int .i64 ic, .int .i64 sq, .int .i64 va, .int .i64 vd, .slice s.a s.n s.c, .slice t.a t.n t.c] 29)).alloc (.cells #[.int .i64 0, .int .i64 0, .int .i64 0, .int .i64 0, .int .i64 0, .int .i64 0, .int .i64 0, .slice none 0 0, .slice none 0 0] 29)) w.heap.size ⟨kd, sr, ds, ic, sq, va, vd, cs, bk⟩ s t from hbe (hat _ _ _ rfl))
  have HZ := Lib.hid (show Mx ((w.alloc (.cells #[.int .i64 kd, .int .i64 sr, .int .i64 ds, .int .i64 ic, .int .i64 sq, .int .i64 va, .int .i64 vd, .slice s.a s.n s.c, .slice t.a t.n t.c] 29)).alloc (.cells #[.int .i64 0, .int .i64 0, .int .i64 0, .int .i64 0, .int .i64 0, .int .i64 0, .int .i64 0, .slice none 0 0, .slice none 0 0] 29)) (w.heap.size + 1) zeroM ⟨none, 0, 0⟩ ⟨none, 0, 0⟩ from hat _ _ _ (by simp))
  have HB := Lib.hid (bal (bal (Below.refl w.heap.size w) (Nat.le_refl _) (.cells #[.int .i64 kd, .int .i64 sr, .int .i64 ds, .int .i64 ic, .int .i64 sq, .int .i64 va, .int .i64 vd, .slice s.a s.n s.c, .slice t.a t.n t.c] 29)) (Nat.le_refl _) (.cells #[.int .i64 0, .int .i64 0, .int .i64 0, .int .i64 0, .int .i64 0, .int .i64 0, .int .i64 0, .slice none 0 0, .slice none 0 0] 29))
  have HMW := Lib.hid HMO.out
  have HMO := Lib.hid (HMO.out.all HB.out)
  generalize ((w.alloc (.cells #[.int .i64 kd, .int .i64 sr, .int .i64 ds, .int .i64 ic, .int .i64 sq, .int .i64 va, .int .i64 vd, .slice s.a s.n s.c, .slice t.a t.n t.c] 29)).alloc (.cells #[.int .i64 0, .int .i64 0, .int .i64 0, .int .i64 0, .int .i64 0, .int .i64 0, .int .i64 0, .slice none 0 0, .slice none 0 0] 29)) = w1 at HX HZ HMO HB ⊢
  have hsz := HZ.out.lt
  have x7 : (w1.alloc (.cells #[] 47)).cell? ⟨w.heap.size, 7, none⟩ = some (.slice s.a s.n s.c) := Mx.c7 (m := ⟨kd, sr, ds, ic, sq, va, vd, cs, bk⟩) (hbe HX.out)
  have hz7 : ∀ W', Below w1.heap.size w1 W' → (W'.cell? ⟨w.heap.size, 7, none⟩ = some (.slice s.a s.n s.c)) ∧ W'.frozen? ⟨w.heap.size, 7, none⟩ = false := fun W' h => ⟨(HX.out.all h).c7, (HX.out.all h).frozen 7⟩
  have HZ7 := Lib.hid hz7; clear hz7
  go_upto_region 2 with (at_builtin; refine Rg.wp_copyG (K := KC) rfl (.tmp 3) (.tmp 5) rfl w1 rfl _ s.a s.n s.c cs rfl HMO.out.1.1 HMO.out.1.2.2.2 (Nat.le_refl _) HMO.out.1.2.2.1 ?_; intro A4 c4 w4 ho4 hb4; obtain ⟨p7, f7⟩ := HZ7.out _ hb4)
  clear x7 p7 f7 HZ7
  have HX := Lib.hid ((HX.out.all hb4).put1 7 (.slice A4 s.n c4) ⟨kd, sr, ds, ic, sq, va, vd, cs, bk⟩ ⟨A4, s.n, c4⟩ t rfl)
  have HZ := Lib.hid ((HZ.out.all hb4).other (p := ⟨w.heap.size, 7, none⟩) (by show w.heap.size + 1 ≠ w.heap.size; omega) (.slice A4 s.n c4))
  have HO4 := Lib.hid (show Rg.OwnG KC (w4.setCell ⟨w.heap.size, 7, none⟩ (.slice A4 s.n c4)) w1.heap.size A4 s.n c4 cs from ho4.keep (fun k hk => Below.heap_setCell _ _ _ _ (by have := (ho4.2.lt k hk).1; show k ≠ w.heap.size; omega)))
  have HB := Lib.hid (show Below w.heap.size w (w4.setCell ⟨w.heap.size, 7, none⟩ (.slice A4 s.n c4)) from (HB.out.trans (hb4.mono HB.out.size)).setCell (Nat.le_refl _) _)
  have hs4 : w.heap.size + 1 < (w4.setCell ⟨w.heap.size, 7, none⟩ (.slice A4 s.n c4)).heap.size := by have := hb4.size; simp [World.setCell]; omega
  clear HMO ho4 hb4
  generalize (w4.setCell ⟨w.heap.size, 7, none⟩ (.slice A4 s.n c4)) = w5 at HX HZ HO4 HB hs4 ⊢
  have HMO := Lib.hid (HMW.out.all HB.out)
  have x8 : (w5.alloc (.cells #[] 52)).cell? ⟨w.heap.size, 8, none⟩ = some (.slice t.a t.n t.c) := Mx.c8 (m := ⟨kd, sr, ds, ic, sq, va, vd, cs, bk⟩) (hbe HX.out)
  have HZ7 : Hid (∀ W', Below w5.heap.size w5 W' → (W'.cell? ⟨w.heap.size, 8, none⟩ = some (.slice t.a t.n t.c)) ∧ W'.frozen? ⟨w.heap.size, 8, none⟩ = false) := Lib.hid (fun W' h => ⟨(HX.out.all h).c8, (HX.out.all h).frozen 8⟩)
  go_upto_region 3 with (at_builtin; refine Rg.wp_copyG (K := KE) rfl (.tmp 8) (.tmp 10) rfl w5 rfl _ t.a t.n t.c bk rfl HMO.out.2.1 (So.rs HMO.out.2) (Nat.le_refl _) HMO.out.2.2.2.1 ?_; intro A6 c6 w6 ho6 hb6; obtain ⟨p7, f7⟩ := HZ7.out _ hb6)
  clear x8 p7 f7 HZ7
  have HX := Lib.hid ((HX.out.all hb6).put1 8 (.slice A6 t.n c6) ⟨kd, sr, ds, ic, sq, va, vd, cs, bk⟩ ⟨A4, s.n, c4⟩ ⟨A6, t.n, c6⟩ rfl)
  have HZ := Lib.hid ((HZ.out.all hb6).other (p := ⟨w.heap.size, 8, none⟩) (by show w.heap.size + 1 ≠ w.heap.size; omega) (.slice A6 t.n c6))
  have HO6 := Lib.hid (show Rg.OwnG KE (w6.setCell ⟨w.heap.size, 8, none⟩ (.slice A6 t.n c6)) w5.heap.size A6 t.n c6 bk from ho6.keep (fun k hk => Below.heap_setCell _ _ _ _ (by have := (ho6.2.lt k hk).1; show k ≠ w.heap.size; omega)))
  have HO4 := Lib.hid (show Rg.OwnG KC (w6.setCell ⟨w.heap.size, 8, none⟩ (.slice A6 t.n c6)) w1.heap.size A4 s.n c4 cs from (HO4.out.below hb6 (Nat.le_refl _)).keep (fun k hk => Below.heap_setCell _ _ _ _ (by have := (HO4.out.2.lt k hk).1; show k ≠ w.heap.size; omega)))
  have HB := Lib.hid (show Below w.heap.size w (w6.setCell ⟨w.heap.size, 8, none⟩ (.slice A6 t.n c6)) from (HB.out.trans (hb6.mono HB.out.size)).setCell (Nat.le_refl _) _)
  have hs1 : w.heap.size ≤ w1.heap.size := by omega
  have hs5 : w.heap.size ≤ w5.heap.size := by omega
  clear HMO ho6 hb6
  generalize (w6.setCell ⟨w.heap.size, 8, none⟩ (.slice A6 t.n c6)) = w7 at HX HZ HO4 HO6 HB ⊢
  obtain ⟨x0, x1, x2, x3, x4, x5, x6, x7, x8⟩ := HX.out.cs
  obtain ⟨y0, y1, y2, y3, y4, y5, y6, y7, y8⟩ := HZ.out.cs
  have f0 := HZ.out.frozen 0; have f1 := HZ.out.frozen 1; have f2 := HZ.out.frozen 2; have f3 := HZ.out.frozen 3; have f4 := HZ.out.frozen 4; have f5 := HZ.out.frozen 5; have f6 := HZ.out.frozen 6; have f7 := HZ.out.frozen 7; have f8 := HZ.out.frozen 8
  simp only at x0 x1 x2 x3 x4 x5 x6 x7 x8
  simp only [zeroM] at y0 y1 y2 y3 y4 y5 y6 y7 y8
  go_wp2
  refine bodyPost_ret (results_msg (g := w.heap.size + 1) (m := ⟨kd, sr, ds, ic, sq, va, vd, cs, bk⟩) (s := ⟨A4, s.n, c4⟩) (t := ⟨A6, t.n, c6⟩) rfl rfl (HZ.out.put ⟨kd, sr, ds, ic, sq, va, vd, cs, bk⟩ ⟨A4, s.n, c4⟩ ⟨A6, t.n, c6⟩)) rfl ?_
  refine ⟨⟨A4, s.n, c4⟩, ⟨A6, t.n, c6⟩, rfl, ?_, ?_, ?_⟩
  · exact (HO4.out.keep (fun k hk => chain9 (by have := (HO4.out.2.lt k hk).1; omega))).base hs1
  · exact (HO6.out.keep (fun k hk => chain9 (by have := (HO6.out.2.lt k hk).1; omega))).base hs5
  · exact ((((((((HB.out.setCell (by simp) _).setCell (by simp) _).setCell (by simp) _).setCell (by simp) _).setCell (by simp) _).setCell (by simp) _).setCell (by simp) _).setCell (by simp) _).setCell (by simp) _
end Go.Proofs.Ytldfccllpnplmaa.Msw

namespace Go.Proofs.Ytldfccllpnplmaa.Msw
set_option maxRecDepth 20000
open Go.RowKit
open Cl Bk Ms Clw Bkw
open Chgw (hat hbe ret_bool vw)
open Rg (bal)
open Lgw (wrapu)

theorem cell_nat {x : C} (h : okC x = true) : ∃ j a d : Nat, x = ((j : Int), (a : Int), (d : Int)) ∧ j < 6 ∧ a < 64 ∧ d < 64 ∧ cellN x = [j, 64 * a + d] := by
  rw [okC_iff] at h
  have h2 := of_decide_eq_true h.2.1
  obtain ⟨x1, x2, x3⟩ := x
  simp only at h h2
  refine ⟨x1.toNat, x2.toNat, x3.toNat, ?_, by omega, by omega, by omega, ?_⟩
  · rw [Prod.mk.injEq, Prod.mk.injEq]; omega
  · unfold cellN Lg.nm
    simp only
    congr 2
    omega
theorem name_o (a d : Nat) (ha : a < 64) (hd : d < 64) (w : World) : Calls Try.prog 29 #[.agg #[.int .i64 (a : Int), .int .i64 (d : Int)]] w fun e w' => e = .returned (.int .i64 ((64 * a + d : Nat) : Int)) ∧ Below w.heap.size w w' := Chgw.name_r a d ha hd w
theorem frame_no (m : M) (s t : S3) (w : World) (h : Mo w m s t) (hr : rightM m = false) : Calls Try.prog 13 #[mvv m s t] w (RetFr w m) := by
  have HMO := Lib.hid h; have HR := Lib.hid hr; have HFN := Lib.hid (fr_no hr); clear h hr
  have HRO : Hid (∀ W, Below w.heap.size w W → Calls Try.prog 14 #[mvv m s t] W fun e w' => e = .returned (.bool false) ∧ Below W.heap.size W w') := Lib.hid (fun W hW => by have := right_o m s t W (HMO.out.all hW); rwa [HR.out] at this)
  unfold mvv at HRO ⊢
  go_enter Try.func13, Try.ntmps13
  go_wp2_with fail
  refine (HRO.out _ (bal (Below.refl _ _) (Nat.le_refl _) _)).mono ?_
  rintro e w2 ⟨rfl, hb⟩
  have HB := Lib.hid ((bal (Below.refl w.heap.size w) (Nat.le_refl _) _).trans (hb.mono (by simp))); clear hb HRO
  go_wp2
  go_ret2
  exact ⟨none, 0, 0, by rw [HFN.out.1]; rfl, by rw [HFN.out.2]; rfl, Nat.le_refl _, by rw [HFN.out.2]; exact Rd.nil, HB.out⟩
theorem ent_nat {x : E} (h : okE x = true) : ∃ k n d : Nat, x = ⟨(k : Int), (n : Int), (d : Int), x.val⟩ ∧ k < 4 ∧ n < 1048576 ∧ d < 6 ∧ entN x = [k, n, d, Flt.clean x.val] := by
  rw [okE_iff] at h
  obtain ⟨x1, x2, x3, x4⟩ := x
  simp only at h
  refine ⟨x1.toNat, x2.toNat, x3.toNat, ?_, by omega, by omega, by omega, rfl⟩
  rw [E.mk.injEq]
  exact ⟨by omega, by omega, by omega, rfl⟩
set_option maxHeartbeats 8000000 in
set_option maxRecDepth 100000 in
theorem frame_core (k r d i q a e : Nat) (hk : k < 1048576) (hr0 : r < 1048576) (hd0 : d < 1048576) (hi0 : i < 1048576) (hq0 : q < 1048576) (ha : a < 64) (he : e < 64) (cs : List C) (bk : List E) (s t : S3) (w : World) (h : Mo w ⟨(k : Int), (r : Int), (d : Int), (i : Int), (q : Int), (a : Int), (e : Int), cs, bk⟩ s t) (hr : rightM ⟨(k : Int), (r : Int), (d : Int), (i : Int), (q : Int), (a : Int), (e : Int), cs, bk⟩ = true) :
    Calls Try.prog 13 #[mvv ⟨(k : Int), (r : Int), (d : Int), (i : Int), (q : Int), (a : Int), (e : Int), cs, bk⟩ s t] w (RetFr w ⟨(k : Int), (r : Int), (d : Int), (i : Int), (q : Int), (a : Int), (e : Int), cs, bk⟩) := by
  have hok := h.ok hr
  have hri := (rightM_iff _).1 hr
  have hl6 : s.n ≤ 6 := by rw [h.1.1]; exact cl_len hri.2.2.1
  have hl4 : t.n ≤ 4 := by rw [h.2.1]; exact book_len hri.2.2.2.1
  have HPO : Hid (∀ L, numsM ⟨(k : Int), (r : Int), (d : Int), (i : Int), (q : Int), (a : Int), (e : Int), cs, bk⟩ = L → (∀ x ∈ L, Wire.W64 x) ∧ frE ⟨(k : Int), (r : Int), (d : Int), (i : Int), (q : Int), (a : Int), (e : Int), cs, bk⟩ = 0 ∧ frB ⟨(k : Int), (r : Int), (d : Int), (i : Int), (q : Int), (a : Int), (e : Int), cs, bk⟩ = Crc.seal_ (L.flatMap Wire.form)) := Lib.hid (fun L hL => ⟨by rw [← hL]; exact numsM_ok hok, (fr_yes hr).1, by rw [(fr_yes hr).2, ← hL]; rfl⟩)
  have HNM : Hid (numsM ⟨(k : Int), (r : Int), (d : Int), (i : Int), (q : Int), (a : Int), (e : Int), cs, bk⟩ = [k, r, d, i, q, 64 * a + e, s.n] ++ (cs.flatMap cellN ++ (t.n :: bk.flatMap entN))) := Lib.hid (by
    have h1 : s.n = cs.length := h.1.1
    have h2 : t.n = bk.length := h.2.1
    rw [h1, h2]
    unfold numsM headN
    simp only [Int.toNat_natCast]
    rw [show Lg.nm (a : Int) (e : Int) = 64 * a + e from by unfold Lg.nm; omega])
  have HCN : Hid (∀ x ∈ cs, okC x = true) := Lib.hid (fun x hx => isCl_mem hri.2.2.1 hx)
  have HEN : Hid (∀ x ∈ bk, okE x = true ∧ Flt.U64 x.val) := Lib.hid (fun x hx => ⟨(chk_mem bk (-1) hri.2.2.2.1 x hx).1, h.2.u64 x hx⟩)
  have HRO : Hid (∀ W, Below w.heap.size w W → Calls Try.prog 14 #[mvv ⟨(k : Int), (r : Int), (d : Int), (i : Int), (q : Int), (a : Int), (e : Int), cs, bk⟩ s t] W fun e w' => e = .returned (.bool true) ∧ Below W.heap.size W w') := Lib.hid (fun W hW => by have := right_o ⟨(k : Int), (r : Int), (d : Int), (i : Int), (q : Int), (a : Int), (e : Int), cs, bk⟩ s t W (h.all hW); rwa [hr] at this)
  have HMO := Lib.hid h
  clear h hr hok hri
  unfold mvv at HRO ⊢
  go_enter Try.func13, Try.ntmps13
  go_wp2_with fail
  have HX := Lib.hid (show Mx (w.alloc (.cells #[.int .i64 (k : Int), .int .i64 (r : Int), .int .i64 (d : Int), .int .i64 (i : Int), .int .i64 (q : Int), .int .i64 (a : Int), .int .i64 (e : Int), .slice s.a s.n s.c, .slice t.a t.n t.c] 29)) w.heap.size ⟨(k : Int), (r : Int), (d : Int), (i : Int), (q : Int), (a : Int), (e : Int), cs, bk⟩ s t from hat _ _ _ rfl)
  have HB := Lib.hid (bal (Below.refl w.heap.size w) (Nat.le_refl _) (.cells #[.int .i64 (k : Int), .int .i64 (r : Int), .int .i64 (d : Int), .int .i64 (i : Int), .int .i64 (q : Int), .int .i64 (a : Int), .int .i64 (e : Int), .slice s.a s.n s.c, .slice t.a t.n t.c] 29))
  generalize w.alloc (.cells #[.int .i64 (k : Int), .int .i64 (r : Int), .int .i64 (d : Int), .int .i64 (i : Int), .int .i64 (q : Int), .int .i64 (a : Int), .int .i64 (e : Int), .slice s.a s.n s.c, .slice t.a t.n t.c] 29) = w1 at HX HB ⊢
  refine (HRO.out _ HB.out).mono ?_
  rintro e0 w2 ⟨rfl, hb⟩
  have HX := Lib.hid (HX.out.all hb)
  have HB := Lib.hid (HB.out.trans (hb.mono HB.out.size)); clear hb HRO
  have HMO := Lib.hid (HMO.out.all HB.out)
  have hs2 := HX.out.lt
  go_wp2_with fail
  have HP := Lib.hid (fun W => name_o a e ha he W)
  have wk : IntKind.u64.wrap (k : Int) = k := wrapu k (by omega)
  have wr0 : IntKind.u64.wrap (r : Int) = r := wrapu r (by omega)
  have wd : IntKind.u64.wrap (d : Int) = d := wrapu d (by omega)
  have wi : IntKind.u64.wrap (i : Int) = i := wrapu i (by omega)
  have wq : IntKind.u64.wrap (q : Int) = q := wrapu q (by omega)
  have ws : IntKind.u64.wrap (s.n : Int) = s.n := wrapu s.n (by omega)
  have wp : IntKind.u64.wrap ((64 * a + e : Nat) : Int) = ((64 * a + e : Nat) : Int) := wrapu _ (by omega)
  generalize 64 * a + e = p at HP wp HNM
  have HK : Hid (∀ W', Below w2.heap.size w2 W' → W'.cell? ⟨w.heap.size, 0, none⟩ = some (.int .i64 (k : Int)) ∧ W'.cell? ⟨w.heap.size, 1, none⟩ = some (.int .i64 (r : Int)) ∧ W'.cell? ⟨w.heap.size, 2, none⟩ = some (.int .i64 (d : Int)) ∧ W'.cell? ⟨w.heap.size, 3, none⟩ = some (.int .i64 (i : Int)) ∧ W'.cell? ⟨w.heap.size, 4, none⟩ = some (.int .i64 (q : Int)) ∧ W'.cell? ⟨w.heap.size, 5, none⟩ = some (.int .i64 (a : Int)) ∧ W'.cell? ⟨w.heap.size, 6, none⟩ = some (.int .i64 (e : Int)) ∧ W'.cell? ⟨w.heap.size, 7, none⟩ = some (.slice s.a s.n s.c)) := Lib.hid (fun W' h => by
    have h := HX.out.all h
    exact ⟨h.c0, h.c1, h.c2, h.c3, h.c4, h.c5, h.c6, h.c7⟩)
  refine wp_region_held_drew (S := fun W' => Below w2.heap.size w2 W') (by kernel_rfl) (Below.refl _ _).drew (fun hHeld => ?_)
  generalize w2.drew = w5 at hHeld ⊢
  have HB5 : Hid (Below w2.heap.size w2 w5) := hHeld
  clear hHeld
  refine take_in (i := 0) (oi := ⟨_, _, _, _, _, _⟩) (v := ?_) rfl (by kernel_rfl) (by kernel_rfl) (by kernel_rfl) (fun _ _ _ h => h) (by rfl) ?_ HB5.out ?_
  rotate_left
  · intro W hW; have hq := HK.out W hW; go_simp; with_reducible rfl
  simp only [Act.put, List.setIfInBounds_toArray, List.set_cons_zero, List.set_cons_succ]
  refine take_in (i := 1) (oi := ⟨_, _, _, _, _, _⟩) (v := ?_) rfl (by kernel_rfl) (by kernel_rfl) (by kernel_rfl) (fun _ _ _ h => h) (by rfl) ?_ HB5.out ?_
  rotate_left
  · intro W hW; have hq := HK.out W hW; go_simp; with_reducible rfl
  simp only [Act.put, List.setIfInBounds_toArray, List.set_cons_zero, List.set_cons_succ]
  refine take_in (i := 2) (oi := ⟨_, _, _, _, _, _⟩) (v := ?_) rfl (by kernel_rfl) (by kernel_rfl) (by kernel_rfl) (fun _ _ _ h => h) (by rfl) ?_ HB5.out ?_
  rotate_left
  · intro W hW; have hq := HK.out W hW; go_simp; with_reducible rfl
  simp only [Act.put, List.setIfInBounds_toArray, List.set_cons_zero, List.set_cons_succ]
  refine take_in (i := 3) (oi := ⟨_, _, _, _, _, _⟩) (v := ?_) rfl (by kernel_rfl) (by kernel_rfl) (by kernel_rfl) (fun _ _ _ h => h) (by rfl) ?_ HB5.out ?_
  rotate_left
  · intro W hW; have hq := HK.out W hW; go_simp; with_reducible rfl
  simp only [Act.put, List.setIfInBounds_toArray, List.set_cons_zero, List.set_cons_succ]
  refine take_in (i := 4) (oi := ⟨_, _, _, _, _, _⟩) (v := ?_) rfl (by kernel_rfl) (by kernel_rfl) (by kernel_rfl) (fun _ _ _ h => h) (by rfl) ?_ HB5.out ?_
  rotate_left
  · intro W hW; have hq := HK.out W hW; go_simp; with_reducible rfl
  simp only [Act.put, List.setIfInBounds_toArray, List.set_cons_zero, List.set_cons_succ]
  refine take_in (i := 5) (oi := ⟨_, _, _, _, _, _⟩) (v := ?_) rfl (by kernel_rfl) (by kernel_rfl) (by kernel_rfl) (fun _ _ _ h => h) (by rfl) ?_ HB5.out ?_
  rotate_left
  · intro W hW; have hq := HK.out W hW; go_simp; with_reducible rfl
  simp only [Act.put, List.setIfInBounds_toArray, List.set_cons_zero, List.set_cons_succ]
  refine take_in (i := 6) (oi := ⟨_, _, _, _, _, _⟩) (v := ?_) rfl (by kernel_rfl) (by kernel_rfl) (by kernel_rfl) (fun _ _ _ h => h) (by rfl) ?_ HB5.out ?_
  rotate_left
  · intro W hW; have hq := HK.out W hW; go_simp; with_reducible rfl
  simp only [Act.put, List.setIfInBounds_toArray, List.set_cons_zero, List.set_cons_succ]
  refine take_in (i := 7) (oi := ⟨_, _, _, _, _, _⟩) (v := ?_) rfl (by kernel_rfl) (by kernel_rfl) (by kernel_rfl) (fun _ _ _ h => h) (by rfl) ?_ HB5.out ?_
  rotate_left
  · intro W hW; have hq := HK.out W hW; go_simp; with_reducible rfl
  simp only [Act.put, List.setIfInBounds_toArray, List.set_cons_zero, List.set_cons_succ]
  refine take_in (i := 8) (oi := ⟨_, _, _, _, _, _⟩) (v := ?_) rfl (by kernel_rfl) (by kernel_rfl) (by kernel_rfl) (fun _ _ _ h => h) (by rfl) ?_ HB5.out ?_
  rotate_left
  · intro W hW; have hq := HK.out W hW; go_simp; with_reducible rfl
  simp only [Act.put, List.setIfInBounds_toArray, List.set_cons_zero, List.set_cons_succ]
  refine take_in (i := 9) (oi := ⟨_, _, _, _, _, _⟩) (v := ?_) rfl (by kernel_rfl) (by kernel_rfl) (by kernel_rfl) (fun _ _ _ h => h) (by rfl) ?_ HB5.out ?_
  rotate_left
  · intro W hW; have hq := HK.out W hW; go_simp; with_reducible rfl
  simp only [Act.put, List.setIfInBounds_toArray, List.set_cons_zero, List.set_cons_succ]
  refine take_in (i := 10) (oi := ⟨_, _, _, _, _, _⟩) (v := ?_) rfl (by kernel_rfl) (by kernel_rfl) (by kernel_rfl) (fun _ _ _ h => h) (by rfl) ?_ HB5.out ?_
  rotate_left
  · intro W hW; have hq := HK.out W hW; go_simp; with_reducible rfl
  simp only [Act.put, List.setIfInBounds_toArray, List.set_cons_zero, List.set_cons_succ]
  refine take_in (i := 11) (oi := ⟨_, _, _, _, _, _⟩) (v := ?_) rfl (by kernel_rfl) (by kernel_rfl) (by kernel_rfl) (fun _ _ _ h => h) (by rfl) ?_ HB5.out ?_
  rotate_left
  · intro W hW; have hq := HK.out W hW; go_simp; with_reducible rfl
  simp only [Act.put, List.setIfInBounds_toArray, List.set_cons_zero, List.set_cons_succ]
  refine take_in (i := 12) (oi := ⟨_, _, _, _, _, _⟩) (v := ?_) rfl (by kernel_rfl) (by kernel_rfl) (by kernel_rfl) (fun _ _ _ h => h) (by rfl) ?_ HB5.out ?_
  rotate_left
  · intro W hW; have hq := HK.out W hW; go_simp; with_reducible rfl
  simp only [Act.put, List.setIfInBounds_toArray, List.set_cons_zero, List.set_cons_succ]
  refine take_in (i := 13) (oi := ⟨_, _, _, _, _, _⟩) (v := ?_) rfl (by kernel_rfl) (by kernel_rfl) (by kernel_rfl) (fun _ _ _ h => h) (by rfl) ?_ HB5.out ?_
  rotate_left
  · intro W hW; have hq := HK.out W hW; go_simp; with_reducible rfl
  simp only [Act.put, List.setIfInBounds_toArray, List.set_cons_zero, List.set_cons_succ]
  refine take_in (i := 14) (oi := ⟨_, _, _, _, _, _⟩) (v := ?_) rfl (by kernel_rfl) (by kernel_rfl) (by kernel_rfl) (fun _ _ _ h => h) (by rfl) ?_ HB5.out ?_
  rotate_left
  · intro W hW; have hq := HK.out W hW; go_simp; with_reducible rfl
  simp only [Act.put, List.setIfInBounds_toArray, List.set_cons_zero, List.set_cons_succ]
  refine take_in (i := 15) (oi := ⟨_, _, _, _, _, _⟩) (v := ?_) rfl (by kernel_rfl) (by kernel_rfl) (by kernel_rfl) (fun _ _ _ h => h) (by rfl) ?_ HB5.out ?_
  rotate_left
  · intro W hW; have hq := HK.out W hW; go_simp; with_reducible rfl
  simp only [Act.put, List.setIfInBounds_toArray, List.set_cons_zero, List.set_cons_succ]
  refine take_in (i := 16) (oi := ⟨_, _, _, _, _, _⟩) (v := ?_) rfl (by kernel_rfl) (by kernel_rfl) (by kernel_rfl) (fun _ _ _ h => h) (by rfl) ?_ HB5.out ?_
  rotate_left
  · intro W hW; have hq := HK.out W hW; go_simp; with_reducible rfl
  simp only [Act.put, List.setIfInBounds_toArray, List.set_cons_zero, List.set_cons_succ]
  refine take_in (i := 19) (oi := ⟨_, _, _, _, _, _⟩) (v := ?_) rfl (by kernel_rfl) (by kernel_rfl) (by kernel_rfl) (fun _ _ _ h => h) (by rfl) ?_ HB5.out ?_
  rotate_left
  · intro W hW; have hq := HK.out W hW; go_simp; with_reducible rfl
  simp only [Act.put, List.setIfInBounds_toArray, List.set_cons_zero, List.set_cons_succ]
  refine take_in (i := 20) (oi := ⟨_, _, _, _, _, _⟩) (v := ?_) rfl (by kernel_rfl) (by kernel_rfl) (by kernel_rfl) (fun _ _ _ h => h) (by rfl) ?_ HB5.out ?_
  rotate_left
  · intro W hW; have hq := HK.out W hW; go_simp; with_reducible rfl
  simp only [Act.put, List.setIfInBounds_toArray, List.set_cons_zero, List.set_cons_succ]
  refine take_in (i := 21) (oi := ⟨_, _, _, _, _, _⟩) (v := ?_) rfl (by kernel_rfl) (by kernel_rfl) (by kernel_rfl) (fun _ _ _ h => h) (by rfl) ?_ HB5.out ?_
  rotate_left
  · intro W hW; have hq := HK.out W hW; go_simp; with_reducible rfl
  simp only [Act.put, List.setIfInBounds_toArray, List.set_cons_zero, List.set_cons_succ]
  refine take_in (i := 22) (oi := ⟨_, _, _, _, _, _⟩) (v := ?_) rfl (by kernel_rfl) (by kernel_rfl) (by kernel_rfl) (fun _ _ _ h => h) (by rfl) ?_ HB5.out ?_
  rotate_left
  · intro W hW; have hq := HK.out W hW; go_simp; with_reducible rfl
  simp only [Act.put, List.setIfInBounds_toArray, List.set_cons_zero, List.set_cons_succ]
  refine wpAnyH_ready (rs := [17]) (by kernel_rfl) (by simp) ?_
  refine AllReadyH.cons (o := ⟨_, _, _, _, _, _⟩) rfl (fun K hK => ?_) AllReadyH.nil
  go_simp
  refine (HP.out _).mono ?_
  rintro e0 w6 ⟨rfl, hb6⟩
  have HB6 := Lib.hid (HB5.out.trans (hb6.mono HB5.out.size)); clear hb6
  refine hK.out _ _ HB6.out (fun _ => ?_)
  clear hK K
  refine take_in (i := 18) (oi := ⟨_, _, _, _, _, _⟩) (v := ?_) rfl (by kernel_rfl) (by kernel_rfl) (by kernel_rfl) (fun _ _ _ h => h) (by rfl) ?_ HB6.out ?_
  rotate_left
  · intro W hW; go_simp; with_reducible rfl
  simp only [Act.put, List.setIfInBounds_toArray, List.set_cons_zero, List.set_cons_succ]
  refine wpAnyH_ready (rs := [23]) (by kernel_rfl) (by simp) ?_
  refine AllReadyH.cons (o := ⟨_, _, _, _, _, _⟩) rfl (fun K hK => ?_) AllReadyH.nil
  go_simp
  refine hK.out _ _ (bal HB6.out (Nat.le_refl _) _) (fun _ => ?_)
  clear hK K
  have HO := Lib.hid (show Rg.OwnG KN (w6.alloc (.cells #[.int .u64 (k : Int), .int .u64 (r : Int), .int .u64 (d : Int), .int .u64 (i : Int), .int .u64 (q : Int), .int .u64 (p : Int), .int .u64 (s.n : Int)] 56)) w2.heap.size (some ⟨w6.heap.size, 0, none⟩) 7 7 [k, r, d, i, q, p, s.n] from nums_new w6 w2.heap.size w6.heap.size [k, r, d, i, q, p, s.n] rfl HB6.out.size (by unfold maxLen; simp))
  have HB7 := Lib.hid (bal HB6.out (Nat.le_refl _) (.cells #[.int .u64 (k : Int), .int .u64 (r : Int), .int .u64 (d : Int), .int .u64 (i : Int), .int .u64 (q : Int), .int .u64 (p : Int), .int .u64 (s.n : Int)] 56))
  generalize (w6.alloc (.cells #[.int .u64 (k : Int), .int .u64 (r : Int), .int .u64 (d : Int), .int .u64 (i : Int), .int .u64 (q : Int), .int .u64 (p : Int), .int .u64 (s.n : Int)] 56)) = w7 at HO HB7 ⊢
  generalize w6.heap.size = g6 at HO ⊢
  refine take_in (i := 24) (oi := ⟨_, _, _, _, _, _⟩) (v := ?_) rfl (by kernel_rfl) (by kernel_rfl) (by kernel_rfl) (fun _ _ _ h => h) (by rfl) ?_ HB7.out ?_
  rotate_left
  · intro W hW; go_simp; with_reducible rfl
  simp only [Act.put, List.setIfInBounds_toArray, List.set_cons_zero, List.set_cons_succ]
  refine wpAnyH_done (by kernel_rfl) ?_ _
  clear wk wr0 wd wi wq ws wp HB5 HB6 HP
  generalize [k, r, d, i, q, p, s.n] = L0 at HO HNM
  have HK8 : Hid (∀ W', Below w2.heap.size w2 W' → W'.cell? ⟨w.heap.size, 7, none⟩ = some (.slice s.a s.n s.c) ∧ W'.cell? ⟨w.heap.size, 8, none⟩ = some (.slice t.a t.n t.c)) := Lib.hid (fun W' h => ⟨(HX.out.all h).c7, (HX.out.all h).c8⟩)
  clear HK
  have hL7 : Hid (L0.length = 7) := Lib.hid HO.out.1.symm
  have x7 := (HK8.out w7 HB7.out).1
  go_wp2
  clear x7
  go_loopw [4, 39] (fun x i wr => ∃ (A3 : Option Addr) (m3 c3 j : Nat), x = .slice A3 m3 c3 ∧ i = .int .i64 j ∧ j ≤ s.n ∧ Rg.OwnG KN wr w2.heap.size A3 m3 c3 (L0 ++ (cs.take j).flatMap cellN) ∧ Below w2.heap.size w2 wr) (fun _ i _ => s.n - (intOf i).toNat)
  case atStart => exact ⟨_, 7, 7, 0, rfl, rfl, by omega, by simpa using HO.out, HB7.out⟩
  case round =>
    rename World => wl
    obtain ⟨A3, m3, c3, j, rfl, rfl, hj, ho, hb⟩ := hrel
    have HO := Lib.hid ho; have HBL := Lib.hid hb
    have hm3 : m3 = 7 + 2 * j := by
      have h1 := ho.1
      rw [List.length_append, hL7.out, flat_cellN, List.length_take] at h1
      have h2 : s.n = cs.length := HMO.out.1.1
      omega
    have hsz := hb.size
    clear ho hb
    subst hm3
    by_cases h : j < s.n
    · have hjl : j < cs.length := by have h2 : s.n = cs.length := HMO.out.1.1; omega
      obtain ⟨b, o, hsa, hbB, hcell⟩ := HMO.out.1.2.2.2 (by show 0 < cs.length; omega)
      have hz : cs[j]? = some cs[j] := List.getElem?_eq_getElem hjl
      have hc0 := (tri_at (hcell j cs[j] hz)).below HBL.out hbB
      have HNX : Hid ((cs.take (j + 1)).flatMap cellN = (cs.take j).flatMap cellN ++ cellN cs[j]) := Lib.hid (by rw [take_snocC hz, List.flatMap_append]; simp)
      obtain ⟨xj, xa, xd, hx, hxj, hxa, hxd, hcn⟩ := cell_nat (HCN.out cs[j] (List.getElem_mem hjl))
      rw [hcn] at HNX
      generalize cs[j] = x at hc0 hx
      subst hx
      obtain ⟨x0, x1, x2⟩ := hc0
      rw [show KC.k = 3 from rfl] at x0 x1 x2
      simp only at x0 x1 x2
      clear hz hcell hjl hcn
      rw [hsa]
      clear hsa
      go_wp2_with fail
      have VX := Lib.hid (show Cx (wl.alloc (.cells #[.int .i64 (xj : Int), .int .i64 (xa : Int), .int .i64 (xd : Int)] 47)) wl.heap.size ((xj : Int), (xa : Int), (xd : Int)) from hat _ _ _ rfl)
      have HO := Lib.hid (HO.out.alloc (.cells #[.int .i64 (xj : Int), .int .i64 (xa : Int), .int .i64 (xd : Int)] 47))
      have HBL := Lib.hid (bal HBL.out (Nat.le_refl _) (.cells #[.int .i64 (xj : Int), .int .i64 (xa : Int), .int .i64 (xd : Int)] 47))
      generalize wl.alloc (.cells #[.int .i64 (xj : Int), .int .i64 (xa : Int), .int .i64 (xd : Int)] 47) = wm at VX HO HBL ⊢
      generalize wl.heap.size = gc at VX ⊢
      clear x0 x1 x2
      have hsz := HBL.out.size
      have HP := Lib.hid (fun W => name_o xa xd hxa hxd W)
      have wj : IntKind.u64.wrap (xj : Int) = xj := wrapu xj (by omega)
      have wp : IntKind.u64.wrap ((64 * xa + xd : Nat) : Int) = ((64 * xa + xd : Nat) : Int) := wrapu _ (by omega)
      generalize 64 * xa + xd = p2 at HP wp HNX
      refine wp_region_held_drew (S := fun W' => Cx W' gc ((xj : Int), (xa : Int), (xd : Int)) ∧ Below w2.heap.size w2 W') (by kernel_rfl) ⟨VX.out, HBL.out.drew⟩ (fun hHeld => ?_)
      have HO5 := Lib.hid (show Rg.OwnG KN wm.drew w2.heap.size A3 (7 + 2 * j) c3 (L0 ++ (cs.take j).flatMap cellN) from HO.out)
      generalize wm.drew = w5 at hHeld HO5 ⊢
      have HB5 := Lib.hid hHeld
      clear hHeld
      refine take_in (i := 0) (oi := ⟨_, _, _, _, _, _⟩) (v := ?_) rfl (by kernel_rfl) (by kernel_rfl) (by kernel_rfl) (fun _ _ _ h => h) (by rfl) ?_ HB5.out ?_
      rotate_left
      · intro W hW; have hq := And.intro hW.1.c0 (And.intro hW.1.c1 hW.1.c2); go_simp; with_reducible rfl
      simp only [Act.put, List.setIfInBounds_toArray, List.set_cons_zero, List.set_cons_succ]
      refine take_in (i := 1) (oi := ⟨_, _, _, _, _, _⟩) (v := ?_) rfl (by kernel_rfl) (by kernel_rfl) (by kernel_rfl) (fun _ _ _ h => h) (by rfl) ?_ HB5.out ?_
      rotate_left
      · intro W hW; have hq := And.intro hW.1.c0 (And.intro hW.1.c1 hW.1.c2); go_simp; with_reducible rfl
      simp only [Act.put, List.setIfInBounds_toArray, List.set_cons_zero, List.set_cons_succ]
      refine take_in (i := 2) (oi := ⟨_, _, _, _, _, _⟩) (v := ?_) rfl (by kernel_rfl) (by kernel_rfl) (by kernel_rfl) (fun _ _ _ h => h) (by rfl) ?_ HB5.out ?_
      rotate_left
      · intro W hW; have hq := And.intro hW.1.c0 (And.intro hW.1.c1 hW.1.c2); go_simp; with_reducible rfl
      simp only [Act.put, List.setIfInBounds_toArray, List.set_cons_zero, List.set_cons_succ]
      refine take_in (i := 3) (oi := ⟨_, _, _, _, _, _⟩) (v := ?_) rfl (by kernel_rfl) (by kernel_rfl) (by kernel_rfl) (fun _ _ _ h => h) (by rfl) ?_ HB5.out ?_
      rotate_left
      · intro W hW; have hq := And.intro hW.1.c0 (And.intro hW.1.c1 hW.1.c2); go_simp; with_reducible rfl
      simp only [Act.put, List.setIfInBounds_toArray, List.set_cons_zero, List.set_cons_succ]
      refine take_in (i := 4) (oi := ⟨_, _, _, _, _, _⟩) (v := ?_) rfl (by kernel_rfl) (by kernel_rfl) (by kernel_rfl) (fun _ _ _ h => h) (by rfl) ?_ HB5.out ?_
      rotate_left
      · intro W hW; have hq := And.intro hW.1.c0 (And.intro hW.1.c1 hW.1.c2); go_simp; with_reducible rfl
      simp only [Act.put, List.setIfInBounds_toArray, List.set_cons_zero, List.set_cons_succ]
      refine take_in (i := 5) (oi := ⟨_, _, _, _, _, _⟩) (v := ?_) rfl (by kernel_rfl) (by kernel_rfl) (by kernel_rfl) (fun _ _ _ h => h) (by rfl) ?_ HB5.out ?_
      rotate_left
      · intro W hW; have hq := And.intro hW.1.c0 (And.intro hW.1.c1 hW.1.c2); go_simp; with_reducible rfl
      simp only [Act.put, List.setIfInBounds_toArray, List.set_cons_zero, List.set_cons_succ]
      refine wpAnyH_ready (rs := [6]) (by kernel_rfl) (by simp) ?_
      refine AllReadyH.cons (o := ⟨_, _, _, _, _, _⟩) rfl (fun K hK => ?_) AllReadyH.nil
      go_simp
      refine (HP.out _).mono ?_
      rintro e0 w6 ⟨rfl, hb6⟩
      have HO6 := Lib.hid (HO5.out.below hb6 (Nat.le_refl _))
      have HB6 := Lib.hid (And.intro (HB5.out.1.all hb6) (HB5.out.2.trans (hb6.mono HB5.out.2.size))); clear hb6
      refine hK.out _ _ HB6.out (fun _ => ?_)
      clear hK K
      refine take_in (i := 7) (oi := ⟨_, _, _, _, _, _⟩) (v := ?_) rfl (by kernel_rfl) (by kernel_rfl) (by kernel_rfl) (fun _ _ _ h => h) (by rfl) ?_ HB6.out ?_
      rotate_left
      · intro W hW; go_simp; with_reducible rfl
      simp only [Act.put, List.setIfInBounds_toArray, List.set_cons_zero, List.set_cons_succ]
      refine wpAnyH_ready (rs := [8]) (by kernel_rfl) (by simp) ?_
      refine AllReadyH.cons (o := ⟨_, _, _, _, _, _⟩) rfl (fun K hK => ?_) AllReadyH.nil
      go_simp
      have HB7 := Lib.hid (show Cx (w6.alloc (.cells #[.int .u64 (xj : Int), .int .u64 (p2 : Int)] 56)) gc ((xj : Int), (xa : Int), (xd : Int)) ∧ Below w2.heap.size w2 (w6.alloc (.cells #[.int .u64 (xj : Int), .int .u64 (p2 : Int)] 56)) from ⟨hbe HB6.out.1, bal HB6.out.2 (Nat.le_refl _) _⟩)
      refine hK.out _ _ HB7.out (fun _ => ?_)
      clear hK K
      have HO7 := Lib.hid (HO6.out.alloc (.cells #[.int .u64 (xj : Int), .int .u64 (p2 : Int)] 56))
      have HRW := Lib.hid (show Rg.Rs KN (w6.alloc (.cells #[.int .u64 (xj : Int), .int .u64 (p2 : Int)] 56)) (w6.heap.size + 1) (some ⟨w6.heap.size, 0, none⟩) [xj, p2] from nums_rs w6 w6.heap.size [xj, p2] rfl)
      generalize w6.alloc (.cells #[.int .u64 (xj : Int), .int .u64 (p2 : Int)] 56) = w7 at HB7 HO7 HRW ⊢
      generalize w6.heap.size = g6 at HRW ⊢
      refine wpAnyH_ready (rs := [9]) (by kernel_rfl) (by simp) ?_
      refine AllReadyH.cons (o := ⟨_, _, _, _, _, _⟩) rfl (fun K hK => ?_) AllReadyH.nil
      refine Rg.op_appGg (K := KN) (.tmp 43) (.tmp 51) rfl w2.heap.size A3 (7 + 2 * j) c3 _ rfl HO7.out _ _ 2 2 [xj, p2] rfl rfl HRW.out (by show _ * 8 ≤ _; omega) HB7.out.2.size ?_
      intro A9 c9 w9 ho9 hb9 hg9
      have HB9 := Lib.hid (show Cx w9 gc ((xj : Int), (xa : Int), (xd : Int)) ∧ Below w2.heap.size w2 w9 from ⟨Rg.blk_apart HB7.out.1 HO7.out.2 (by decide) hg9, HB7.out.2.trans hb9⟩)
      have HO9 := Lib.hid ho9
      clear ho9 hb9 hg9
      refine hK.out _ _ HB9.out (fun _ => ?_)
      clear hK K
      simp only [Act.put, List.setIfInBounds_toArray, List.set_cons_zero, List.set_cons_succ]
      refine take_in (i := 10) (oi := ⟨_, _, _, _, _, _⟩) (v := ?_) rfl (by kernel_rfl) (by kernel_rfl) (by kernel_rfl) (fun _ _ _ h => h) (by rfl) ?_ HB9.out ?_
      rotate_left
      · intro W hW; go_simp; with_reducible rfl
      simp only [Act.put, List.setIfInBounds_toArray, List.set_cons_zero, List.set_cons_succ]
      refine wpAnyH_done (by kernel_rfl) ?_ _
      clear wj wp
      go_wp2
      refine ⟨⟨A9, 7 + 2 * j + 2, c9, j + 1, rfl, by go_num, by omega, ?_, HB9.out.2⟩, by simp [intOf]; omega⟩
      rw [HNX.out, ← List.append_assoc]
      exact HO9.out
    · have hjs : j = s.n := by omega
      have HO := Lib.hid (show Rg.OwnG KN wl w2.heap.size A3 (7 + 2 * j) c3 (L0 ++ cs.flatMap cellN) from by have := HO.out; rwa [List.take_of_length_le (by have h2 : s.n = cs.length := HMO.out.1.1; omega)] at this)
      have hj6 : j ≤ 6 := by omega
      have z7 := HK8.out wl HBL.out
      obtain ⟨z7, z8⟩ := z7
      have wt : IntKind.u64.wrap (t.n : Int) = t.n := wrapu t.n (by omega)
      have hjn : ¬ j < s.n := h
      clear hjs
      have HRW := Lib.hid (show Rg.Rs KN (wl.alloc (.cells #[.int .u64 (t.n : Int)] 56)) (wl.heap.size + 1) (some ⟨wl.heap.size, 0, none⟩) [t.n] from nums_rs wl wl.heap.size [t.n] rfl)
      have HO7 := Lib.hid (HO.out.alloc (.cells #[.int .u64 (t.n : Int)] 56))
      have HB7 := Lib.hid (bal HBL.out (Nat.le_refl _) (.cells #[.int .u64 (t.n : Int)] 56))
      go_upto_region 10 with (at_builtin; refine Rg.wp_appG (K := KN) rfl (.tmp 54) (.tmp 59) rfl w2.heap.size A3 (7 + 2 * j) c3 _ rfl HO7.out _ _ 1 1 [t.n] rfl rfl HRW.out (by show _ * 8 ≤ _; omega) HB7.out.size ?_; intro A9 c9 w9 ho9 hb9)
      have HO := Lib.hid ho9
      have HBL := Lib.hid (HB7.out.trans hb9)
      clear ho9 hb9 HRW HO7 HB7 z7 z8 wt
      obtain ⟨z7, z8⟩ := HK8.out w9 HBL.out
      have hL8 : Hid ((L0 ++ cs.flatMap cellN ++ [t.n]).length = 8 + 2 * j) := Lib.hid (by have := HO.out.1; omega)
      have HNM : Hid (numsM ⟨(k : Int), (r : Int), (d : Int), (i : Int), (q : Int), (a : Int), (e : Int), cs, bk⟩ = (L0 ++ cs.flatMap cellN ++ [t.n]) ++ bk.flatMap entN) := Lib.hid (by rw [HNM.out]; simp)
      generalize L0 ++ cs.flatMap cellN ++ [t.n] = L1 at HO HNM hL8
      have HTN : Hid (t.n = bk.length) := Lib.hid HMO.out.2.1
      go_wp2
      clear z7 z8
      go_loopw [4, 64] (fun x i wr => ∃ (A4 : Option Addr) (m4 c4 u : Nat), x = .slice A4 m4 c4 ∧ i = .int .i64 u ∧ u ≤ t.n ∧ Rg.OwnG KN wr w2.heap.size A4 m4 c4 (L1 ++ (bk.take u).flatMap entN) ∧ Below w2.heap.size w2 wr) (fun _ i _ => t.n - (intOf i).toNat)
      case atStart => exact ⟨_, _, _, 0, rfl, rfl, by omega, by simpa using HO.out, HBL.out⟩
      case round =>
        rename World => wl
        obtain ⟨A4, m4, c4, u, rfl, rfl, hu, ho, hb⟩ := hrel
        have HO := Lib.hid ho; have HBL := Lib.hid hb
        have hm4 : m4 = 8 + 2 * j + 4 * u := by
          have h1 := ho.1
          rw [List.length_append, hL8.out, flat_entN, List.length_take] at h1
          have h2 := HTN.out
          omega
        have hsz := hb.size
        clear ho hb
        subst hm4
        by_cases h : u < t.n
        · have hjl : u < bk.length := by have h2 := HTN.out; omega
          obtain ⟨b, o, hsa, hbB, hcell⟩ := HMO.out.2.2.2.2.2 (by show 0 < bk.length; omega)
          have hz : bk[u]? = some bk[u] := List.getElem?_eq_getElem hjl
          have hc0 := (hcell u bk[u] hz).below HBL.out hbB
          have HNX : Hid ((bk.take (u + 1)).flatMap entN = (bk.take u).flatMap entN ++ entN bk[u]) := Lib.hid (by rw [take_snocC hz, List.flatMap_append]; simp)
          have hoe := HEN.out bk[u] (List.getElem_mem hjl)
          obtain ⟨xk, xn, xd, hx, hxk, hxn, hxd, hcn⟩ := ent_nat hoe.1
          have hcw := Lg.u64_clean hoe.2
          have hu64 := hoe.2
          rw [hcn] at HNX
          generalize bk[u] = x at hc0 hx HNX hcw hu64
          obtain ⟨y1, y2, y3, xv⟩ := x
          simp only [E.mk.injEq, and_true] at hx
          obtain ⟨rfl, rfl, rfl⟩ := hx
          obtain ⟨x0, x1, x2, x3⟩ := hc0
          simp only at x0 x1 x2 x3 HNX hcw hu64
          have HBI := Lib.hid (fun W => Nmw.refbits_c xv W hu64)
          have HCW := Lib.hid hcw
          clear hz hcell hjl hcn hoe hcw hu64
          rw [hsa]
          clear hsa
          have hsf := store_flt
          go_wp2_with fail
          have VX := Lib.hid (show Ex (wl.alloc (.cells #[.int .i64 (xk : Int), .int .i64 (xn : Int), .int .i64 (xd : Int), .float .f64 xv] 52)) wl.heap.size ⟨(xk : Int), (xn : Int), (xd : Int), xv⟩ from hat _ _ _ rfl)
          have HO := Lib.hid (HO.out.alloc (.cells #[.int .i64 (xk : Int), .int .i64 (xn : Int), .int .i64 (xd : Int), .float .f64 xv] 52))
          have HBL := Lib.hid (bal HBL.out (Nat.le_refl _) (.cells #[.int .i64 (xk : Int), .int .i64 (xn : Int), .int .i64 (xd : Int), .float .f64 xv] 52))
          generalize wl.alloc (.cells #[.int .i64 (xk : Int), .int .i64 (xn : Int), .int .i64 (xd : Int), .float .f64 xv] 52) = wm at VX HO HBL ⊢
          generalize wl.heap.size = gc at VX ⊢
          clear x0 x1 x2 x3
          have hsz := HBL.out.size
          have wj : IntKind.u64.wrap (xk : Int) = xk := wrapu xk (by omega)
          have wn : IntKind.u64.wrap (xn : Int) = xn := wrapu xn (by omega)
          have wd : IntKind.u64.wrap (xd : Int) = xd := wrapu xd (by omega)
          generalize Flt.clean xv = cv0 at HBI HNX HCW
          refine wp_region_held_drew (S := fun W' => Ex W' gc ⟨(xk : Int), (xn : Int), (xd : Int), xv⟩ ∧ Below w2.heap.size w2 W') (by kernel_rfl) ⟨VX.out, HBL.out.drew⟩ (fun hHeld => ?_)
          have HO5 := Lib.hid (show Rg.OwnG KN wm.drew w2.heap.size A4 (8 + 2 * j + 4 * u) c4 (L1 ++ (bk.take u).flatMap entN) from HO.out)
          generalize wm.drew = w5 at hHeld HO5 ⊢
          have HB5 := Lib.hid hHeld
          clear hHeld
          refine take_in (i := 0) (oi := ⟨_, _, _, _, _, _⟩) (v := ?_) rfl (by kernel_rfl) (by kernel_rfl) (by kernel_rfl) (fun _ _ _ h => h) (by rfl) ?_ HB5.out ?_
          rotate_left
          · intro W hW; have hq := And.intro hW.1.c0 (And.intro hW.1.c1 (And.intro hW.1.c2 hW.1.c3)); go_simp; with_reducible rfl
          simp only [Act.put, List.setIfInBounds_toArray, List.set_cons_zero, List.set_cons_succ]
          refine take_in (i := 1) (oi := ⟨_, _, _, _, _, _⟩) (v := ?_) rfl (by kernel_rfl) (by kernel_rfl) (by kernel_rfl) (fun _ _ _ h => h) (by rfl) ?_ HB5.out ?_
          rotate_left
          · intro W hW; have hq := And.intro hW.1.c0 (And.intro hW.1.c1 (And.intro hW.1.c2 hW.1.c3)); go_simp; with_reducible rfl
          simp only [Act.put, List.setIfInBounds_toArray, List.set_cons_zero, List.set_cons_succ]
          refine take_in (i := 2) (oi := ⟨_, _, _, _, _, _⟩) (v := ?_) rfl (by kernel_rfl) (by kernel_rfl) (by kernel_rfl) (fun _ _ _ h => h) (by rfl) ?_ HB5.out ?_
          rotate_left
          · intro W hW; have hq := And.intro hW.1.c0 (And.intro hW.1.c1 (And.intro hW.1.c2 hW.1.c3)); go_simp; with_reducible rfl
          simp only [Act.put, List.setIfInBounds_toArray, List.set_cons_zero, List.set_cons_succ]
          refine take_in (i := 3) (oi := ⟨_, _, _, _, _, _⟩) (v := ?_) rfl (by kernel_rfl) (by kernel_rfl) (by kernel_rfl) (fun _ _ _ h => h) (by rfl) ?_ HB5.out ?_
          rotate_left
          · intro W hW; have hq := And.intro hW.1.c0 (And.intro hW.1.c1 (And.intro hW.1.c2 hW.1.c3)); go_simp; with_reducible rfl
          simp only [Act.put, List.setIfInBounds_toArray, List.set_cons_zero, List.set_cons_succ]
          refine take_in (i := 4) (oi := ⟨_, _, _, _, _, _⟩) (v := ?_) rfl (by kernel_rfl) (by kernel_rfl) (by kernel_rfl) (fun _ _ _ h => h) (by rfl) ?_ HB5.out ?_
          rotate_left
          · intro W hW; have hq := And.intro hW.1.c0 (And.intro hW.1.c1 (And.intro hW.1.c2 hW.1.c3)); go_simp; with_reducible rfl
          simp only [Act.put, List.setIfInBounds_toArray, List.set_cons_zero, List.set_cons_succ]
          refine take_in (i := 5) (oi := ⟨_, _, _, _, _, _⟩) (v := ?_) rfl (by kernel_rfl) (by kernel_rfl) (by kernel_rfl) (fun _ _ _ h => h) (by rfl) ?_ HB5.out ?_
          rotate_left
          · intro W hW; have hq := And.intro hW.1.c0 (And.intro hW.1.c1 (And.intro hW.1.c2 hW.1.c3)); go_simp; with_reducible rfl
          simp only [Act.put, List.setIfInBounds_toArray, List.set_cons_zero, List.set_cons_succ]
          refine take_in (i := 6) (oi := ⟨_, _, _, _, _, _⟩) (v := ?_) rfl (by kernel_rfl) (by kernel_rfl) (by kernel_rfl) (fun _ _ _ h => h) (by rfl) ?_ HB5.out ?_
          rotate_left
          · intro W hW; have hq := And.intro hW.1.c0 (And.intro hW.1.c1 (And.intro hW.1.c2 hW.1.c3)); go_simp; with_reducible rfl
          simp only [Act.put, List.setIfInBounds_toArray, List.set_cons_zero, List.set_cons_succ]
          refine take_in (i := 7) (oi := ⟨_, _, _, _, _, _⟩) (v := ?_) rfl (by kernel_rfl) (by kernel_rfl) (by kernel_rfl) (fun _ _ _ h => h) (by rfl) ?_ HB5.out ?_
          rotate_left
          · intro W hW; have hq := And.intro hW.1.c0 (And.intro hW.1.c1 (And.intro hW.1.c2 hW.1.c3)); go_simp; with_reducible rfl
          simp only [Act.put, List.setIfInBounds_toArray, List.set_cons_zero, List.set_cons_succ]
          refine take_in (i := 8) (oi := ⟨_, _, _, _, _, _⟩) (v := ?_) rfl (by kernel_rfl) (by kernel_rfl) (by kernel_rfl) (fun _ _ _ h => h) (by rfl) ?_ HB5.out ?_
          rotate_left
          · intro W hW; have hq := And.intro hW.1.c0 (And.intro hW.1.c1 (And.intro hW.1.c2 hW.1.c3)); go_simp; with_reducible rfl
          simp only [Act.put, List.setIfInBounds_toArray, List.set_cons_zero, List.set_cons_succ]
          refine take_in (i := 9) (oi := ⟨_, _, _, _, _, _⟩) (v := ?_) rfl (by kernel_rfl) (by kernel_rfl) (by kernel_rfl) (fun _ _ _ h => h) (by rfl) ?_ HB5.out ?_
          rotate_left
          · intro W hW; have hq := And.intro hW.1.c0 (And.intro hW.1.c1 (And.intro hW.1.c2 hW.1.c3)); go_simp; with_reducible rfl
          simp only [Act.put, List.setIfInBounds_toArray, List.set_cons_zero, List.set_cons_succ]
          refine take_in (i := 10) (oi := ⟨_, _, _, _, _, _⟩) (v := ?_) rfl (by kernel_rfl) (by kernel_rfl) (by kernel_rfl) (fun _ _ _ h => h) (by rfl) ?_ HB5.out ?_
          rotate_left
          · intro W hW; have hq := And.intro hW.1.c0 (And.intro hW.1.c1 (And.intro hW.1.c2 hW.1.c3)); go_simp; with_reducible rfl
          simp only [Act.put, List.setIfInBounds_toArray, List.set_cons_zero, List.set_cons_succ]
          refine take_in (i := 11) (oi := ⟨_, _, _, _, _, _⟩) (v := ?_) rfl (by kernel_rfl) (by kernel_rfl) (by kernel_rfl) (fun _ _ _ h => h) (by rfl) ?_ HB5.out ?_
          rotate_left
          · intro W hW; have hq := And.intro hW.1.c0 (And.intro hW.1.c1 (And.intro hW.1.c2 hW.1.c3)); go_simp; with_reducible rfl
          simp only [Act.put, List.setIfInBounds_toArray, List.set_cons_zero, List.set_cons_succ]
          refine take_in (i := 12) (oi := ⟨_, _, _, _, _, _⟩) (v := ?_) rfl (by kernel_rfl) (by kernel_rfl) (by kernel_rfl) (fun _ _ _ h => h) (by rfl) ?_ HB5.out ?_
          rotate_left
          · intro W hW; have hq := And.intro hW.1.c0 (And.intro hW.1.c1 (And.intro hW.1.c2 hW.1.c3)); go_simp; with_reducible rfl
          simp only [Act.put, List.setIfInBounds_toArray, List.set_cons_zero, List.set_cons_succ]
          refine take_in (i := 13) (oi := ⟨_, _, _, _, _, _⟩) (v := ?_) rfl (by kernel_rfl) (by kernel_rfl) (by kernel_rfl) (fun _ _ _ h => h) (by rfl) ?_ HB5.out ?_
          rotate_left
          · intro W hW; have hq := And.intro hW.1.c0 (And.intro hW.1.c1 (And.intro hW.1.c2 hW.1.c3)); go_simp; with_reducible rfl
          simp only [Act.put, List.setIfInBounds_toArray, List.set_cons_zero, List.set_cons_succ]
          refine wpAnyH_ready (rs := [14]) (by kernel_rfl) (by simp) ?_
          refine AllReadyH.cons (o := ⟨_, _, _, _, _, _⟩) rfl (fun K hK => ?_) AllReadyH.nil
          go_simp
          refine (HBI.out _).mono ?_
          rintro e0 w6 ⟨rfl, rfl⟩
          refine hK.out _ _ HB5.out (fun _ => ?_)
          clear hK K
          refine wpAnyH_ready (rs := [15]) (by kernel_rfl) (by simp) ?_
          refine AllReadyH.cons (o := ⟨_, _, _, _, _, _⟩) rfl (fun K hK => ?_) AllReadyH.nil
          go_simp
          have HB7 := Lib.hid (show Ex (w5.alloc (.cells #[.int .u64 (xk : Int), .int .u64 (xn : Int), .int .u64 (xd : Int), .int .u64 (cv0 : Int)] 56)) gc ⟨(xk : Int), (xn : Int), (xd : Int), xv⟩ ∧ Below w2.heap.size w2 (w5.alloc (.cells #[.int .u64 (xk : Int), .int .u64 (xn : Int), .int .u64 (xd : Int), .int .u64 (cv0 : Int)] 56)) from ⟨hbe HB5.out.1, bal HB5.out.2 (Nat.le_refl _) _⟩)
          refine hK.out _ _ HB7.out (fun _ => ?_)
          clear hK K
          have HO7 := Lib.hid (HO5.out.alloc (.cells #[.int .u64 (xk : Int), .int .u64 (xn : Int), .int .u64 (xd : Int), .int .u64 (cv0 : Int)] 56))
          have HRW := Lib.hid (show Rg.Rs KN (w5.alloc (.cells #[.int .u64 (xk : Int), .int .u64 (xn : Int), .int .u64 (xd : Int), .int .u64 (cv0 : Int)] 56)) (w5.heap.size + 1) (some ⟨w5.heap.size, 0, none⟩) [xk, xn, xd, cv0] from nums_rs w5 w5.heap.size [xk, xn, xd, cv0] rfl)
          generalize w5.alloc (.cells #[.int .u64 (xk : Int), .int .u64 (xn : Int), .int .u64 (xd : Int), .int .u64 (cv0 : Int)] 56) = w7 at HB7 HO7 HRW ⊢
          generalize w5.heap.size = g6 at HRW ⊢
          refine wpAnyH_ready (rs := [16]) (by kernel_rfl) (by simp) ?_
          refine AllReadyH.cons (o := ⟨_, _, _, _, _, _⟩) rfl (fun K hK => ?_) AllReadyH.nil
          refine Rg.op_appGg (K := KN) (.tmp 68) (.tmp 83) rfl w2.heap.size A4 (8 + 2 * j + 4 * u) c4 _ rfl HO7.out _ _ 4 4 [xk, xn, xd, cv0] rfl rfl HRW.out (by show _ * 8 ≤ _; omega) HB7.out.2.size ?_
          intro A9 c9 w9 ho9 hb9 hg9
          have HB9 := Lib.hid (show Ex w9 gc ⟨(xk : Int), (xn : Int), (xd : Int), xv⟩ ∧ Below w2.heap.size w2 w9 from ⟨Rg.blk_apart HB7.out.1 HO7.out.2 (by decide) hg9, HB7.out.2.trans hb9⟩)
          have HO9 := Lib.hid ho9
          clear ho9 hb9 hg9
          refine hK.out _ _ HB9.out (fun _ => ?_)
          clear hK K
          simp only [Act.put, List.setIfInBounds_toArray, List.set_cons_zero, List.set_cons_succ]
          refine take_in (i := 17) (oi := ⟨_, _, _, _, _, _⟩) (v := ?_) rfl (by kernel_rfl) (by kernel_rfl) (by kernel_rfl) (fun _ _ _ h => h) (by rfl) ?_ HB9.out ?_
          rotate_left
          · intro W hW; go_simp; with_reducible rfl
          simp only [Act.put, List.setIfInBounds_toArray, List.set_cons_zero, List.set_cons_succ]
          refine wpAnyH_done (by kernel_rfl) ?_ _
          clear wj wn wd
          go_wp2
          refine ⟨⟨A9, 8 + 2 * j + 4 * u + 4, c9, u + 1, rfl, by go_num, by omega, ?_, HB9.out.2⟩, by simp [intOf]; omega⟩
          rw [HNX.out, ← List.append_assoc]
          exact HO9.out
        · have HOF := Lib.hid (show Rg.OwnG KN wl w2.heap.size A4 (8 + 2 * j + 4 * u) c4 (L1 ++ bk.flatMap entN) from by have := HO.out; rwa [List.take_of_length_le (by have h2 := HTN.out; omega)] at this)
          have hpo := HPO.out _ HNM.out
          generalize L1 ++ bk.flatMap entN = L2 at HOF hpo
          have HPO2 := Lib.hid hpo
          clear hpo HPO HNM HO
          have hlen := HOF.out.1
          have HLEN := Lib.hid hlen; clear hlen
          go_wp2_with fail
          refine (put_r none 0 0 [] rfl A4 (8 + 2 * j + 4 * u) c4 L2 HLEN.out HPO2.out.1 wl.heap.size _ Rd.nil (rs_rd HOF.out.rs) (Nat.le_refl _) (by unfold big; omega)).mono ?_
          rintro e0 w9 ⟨A5, n5, c5, rfl, ho5, hb5⟩
          have HO5 := Lib.hid ho5; have HB5 := Lib.hid (HBL.out.trans (hb5.mono HBL.out.size))
          clear ho5 hb5
          have hn5 : n5 ≤ 1000 := by
            have h1 := HO5.out.1
            rw [List.nil_append] at h1
            have h2 := Lg.forms_len L2
            have h3 := HLEN.out
            omega
          go_wp2_with fail
          refine (seal_r A5 n5 c5 _ HO5.out.1 w9.heap.size _ HO5.out.rd (Nat.le_refl _) (by unfold big; omega)).mono ?_
          rintro e0 w10 ⟨A6, n6, c6, rfl, ho6, hb6⟩
          have HO6 := Lib.hid ho6; have HB6 := Lib.hid (HB5.out.trans (hb6.mono HB5.out.size))
          clear ho6 hb6
          go_wp2
          go_ret2
          refine ⟨A6, n6, c6, by rw [HPO2.out.2.1]; rfl, ?_, HO6.out.cap, ?_, HB.out.trans (HB6.out.mono HB.out.size)⟩
          · rw [HPO2.out.2.2]; exact HO6.out.1
          · rw [HPO2.out.2.2]; exact HO6.out.rd
theorem frame_o (m : M) (s t : S3) (w : World) (h : Mo w m s t) : Calls Try.prog 13 #[mvv m s t] w (RetFr w m) := by
  cases hr : rightM m with
  | false => exact frame_no m s t w h hr
  | true =>
    have hri := (rightM_iff m).1 hr
    have hhd := (headM_iff m).1 hri.1
    obtain ⟨kd, sr, ds, ic, sq, va, vd, cs, bk⟩ := m
    obtain ⟨a, e, rfl, rfl, ha, he⟩ := Chgw.right_nat hri.2.1
    simp only at hhd
    obtain ⟨k, rfl⟩ : ∃ k : Nat, kd = (k : Int) := ⟨kd.toNat, by omega⟩
    obtain ⟨r, rfl⟩ : ∃ k : Nat, sr = (k : Int) := ⟨sr.toNat, by omega⟩
    obtain ⟨d, rfl⟩ : ∃ k : Nat, ds = (k : Int) := ⟨ds.toNat, by omega⟩
    obtain ⟨i, rfl⟩ : ∃ k : Nat, ic = (k : Int) := ⟨ic.toNat, by omega⟩
    obtain ⟨q, rfl⟩ : ∃ k : Nat, sq = (k : Int) := ⟨sq.toNat, by omega⟩
    exact frame_core k r d i q a e (by omega) (by omega) (by omega) (by omega) (by omega) ha he cs bk s t w h hr
end Go.Proofs.Ytldfccllpnplmaa.Msw
