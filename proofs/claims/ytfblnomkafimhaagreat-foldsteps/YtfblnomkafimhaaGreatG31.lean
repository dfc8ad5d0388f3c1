/- Contracts and words on which the claims of this seat stand, part 31: FoW FoS FoT. -/
import Derived.Test.YtfblnomkafimhaaGreatG04
import Derived.Test.YtfblnomkafimhaaGreatG05
import Derived.Test.YtfblnomkafimhaaGreatG07
import Derived.Test.YtfblnomkafimhaaGreatG19
import Derived.Test.YtfblnomkafimhaaGreatG30
set_option linter.unusedSimpArgs false
set_option linter.unusedVariables false
namespace Go.Proofs.YtfblnomkafimhaaGreat.Fow
set_option maxRecDepth 20000
open Go.RowKit
open Cl Bk Lg Fo Clw Bkw
open Lgw (rvv Rx KR Sr Elv elv_at)
open Chgw (hat hbe vw)
open Rg (bal)

/-- where a slice lies -/
structure Sl where
  a : Option Addr
  n : Nat
  c : Nat
def cellsKB (x : (Nat × Nat) × Sl) : List Value := [.int .i64 (x.1.1 : Int), .int .i64 (x.1.2 : Int), .slice x.2.a x.2.n x.2.c]
def cellsKI (x : (Nat × Nat) × (Nat × Nat)) : List Value := [.int .i64 (x.1.1 : Int), .int .i64 (x.1.2 : Int), .int .i64 (x.2.1 : Int), .int .i64 (x.2.2 : Int)]
theorem infoKB : (Tryz.prog.info? 69).map (fun i => (i.zero, i.size, i.bytes)) = some (some (.agg #[.int .i64 0, .int .i64 0, .slice none 0 0]), 3, 40) := by kernel_rfl
theorem infoKCs : (Tryz.prog.info? 71).map (fun i => (i.zero, i.size, i.bytes)) = some (some (.agg #[.int .i64 0, .int .i64 0, .slice none 0 0]), 3, 40) := by kernel_rfl
theorem infoKI : (Tryz.prog.info? 73).map (fun i => (i.zero, i.size, i.bytes)) = some (some (.agg #[.int .i64 0, .int .i64 0, .int .i64 0, .int .i64 0]), 4, 32) := by kernel_rfl
def KB : Kind ((Nat × Nat) × Sl) := ⟨cellsKB, 3, 69, 22, 40, .agg #[.int .i64 0, .int .i64 0, .slice none 0 0], fun _ => rfl, fun x u hu => by
  simp only [cellsKB, List.mem_cons, List.not_mem_nil, or_false] at hu
  rcases hu with rfl | rfl | rfl <;> rfl, by omega, by omega, infoKB, Tryz.underlying22, rfl⟩
def KCs : Kind ((Nat × Nat) × Sl) := ⟨cellsKB, 3, 71, 23, 40, .agg #[.int .i64 0, .int .i64 0, .slice none 0 0], fun _ => rfl, fun x u hu => by
  simp only [cellsKB, List.mem_cons, List.not_mem_nil, or_false] at hu
  rcases hu with rfl | rfl | rfl <;> rfl, by omega, by omega, infoKCs, Tryz.underlying23, rfl⟩
def KI : Kind ((Nat × Nat) × (Nat × Nat)) := ⟨cellsKI, 4, 73, 24, 32, .agg #[.int .i64 0, .int .i64 0, .int .i64 0, .int .i64 0], fun _ => rfl, fun x u hu => by
  simp only [cellsKI, List.mem_cons, List.not_mem_nil, or_false] at hu
  rcases hu with rfl | rfl | rfl | rfl <;> rfl, by omega, by omega, infoKI, Tryz.underlying24, rfl⟩
/-- the rows that views' slices lead to -/
def Bks (w : World) (xs : List ((Nat × Nat) × Sl)) (l : List ((Nat × Nat) × List E)) : Prop := xs.length = l.length ∧ ∀ (i : Nat) x y, xs[i]? = some x → l[i]? = some y → x.1 = y.1 ∧ So w x.2.a x.2.n x.2.c y.2
def Css (w : World) (xs : List ((Nat × Nat) × Sl)) (l : List ((Nat × Nat) × List C)) : Prop := xs.length = l.length ∧ ∀ (i : Nat) x y, xs[i]? = some x → l[i]? = some y → x.1 = y.1 ∧ Sc w x.2.a x.2.n x.2.c y.2
theorem Bks.all {w w' : World} {xs : List ((Nat × Nat) × Sl)} {l : List ((Nat × Nat) × List E)} (h : Bks w xs l) (hb : Below w.heap.size w w') : Bks w' xs l := ⟨h.1, fun i x y hx hy => ⟨(h.2 i x y hx hy).1, (h.2 i x y hx hy).2.all hb⟩⟩
theorem Css.all {w w' : World} {xs : List ((Nat × Nat) × Sl)} {l : List ((Nat × Nat) × List C)} (h : Css w xs l) (hb : Below w.heap.size w w') : Css w' xs l := ⟨h.1, fun i x y hx hy => ⟨(h.2 i x y hx hy).1, (h.2 i x y hx hy).2.all hb⟩⟩
theorem snoc_get {α : Type} {l : List α} {a y : α} {i : Nat} (h : (l ++ [a])[i]? = some y) : l[i]? = some y ∨ (i = l.length ∧ y = a) := by
  rcases Nat.lt_trichotomy i l.length with h1 | h1 | h1
  · rw [List.getElem?_append_left h1] at h; exact Or.inl h
  · subst h1
    rw [List.getElem?_append_right (Nat.le_refl _), Nat.sub_self] at h
    exact Or.inr ⟨rfl, (Option.some.inj h).symm⟩
  · rw [List.getElem?_eq_none (by simp; omega)] at h; cases h
theorem Bks.snoc {w : World} {xs : List ((Nat × Nat) × Sl)} {l : List ((Nat × Nat) × List E)} (h : Bks w xs l) {v : (Nat × Nat)} {s : Sl} {b : List E} (hs : So w s.a s.n s.c b) : Bks w (xs ++ [(v, s)]) (l ++ [(v, b)]) := by
  refine ⟨by simp [h.1], fun i x y hx hy => ?_⟩
  rcases snoc_get hx with h1 | ⟨h1, rfl⟩
  · rcases snoc_get hy with h2 | ⟨h2, rfl⟩
    · exact h.2 i x y h1 h2
    · exfalso
      have : i < xs.length := by
        rcases Nat.lt_or_ge i xs.length with h' | h'
        · exact h'
        · rw [List.getElem?_eq_none h'] at h1; cases h1
      rw [h.1] at this; omega
  · rcases snoc_get hy with h2 | ⟨h2, rfl⟩
    · exfalso
      have : i < l.length := by
        rcases Nat.lt_or_ge i l.length with h' | h'
        · exact h'
        · rw [List.getElem?_eq_none h'] at h2; cases h2
      rw [← h.1] at this; omega
    · exact ⟨rfl, hs⟩
theorem Css.snoc {w : World} {xs : List ((Nat × Nat) × Sl)} {l : List ((Nat × Nat) × List C)} (h : Css w xs l) {v : (Nat × Nat)} {s : Sl} {b : List C} (hs : Sc w s.a s.n s.c b) : Css w (xs ++ [(v, s)]) (l ++ [(v, b)]) := by
  refine ⟨by simp [h.1], fun i x y hx hy => ?_⟩
  rcases snoc_get hx with h1 | ⟨h1, rfl⟩
  · rcases snoc_get hy with h2 | ⟨h2, rfl⟩
    · exact h.2 i x y h1 h2
    · exfalso
      have : i < xs.length := by
        rcases Nat.lt_or_ge i xs.length with h' | h'
        · exact h'
        · rw [List.getElem?_eq_none h'] at h1; cases h1
      rw [h.1] at this; omega
  · rcases snoc_get hy with h2 | ⟨h2, rfl⟩
    · exfalso
      have : i < l.length := by
        rcases Nat.lt_or_ge i l.length with h' | h'
        · exact h'
        · rw [List.getElem?_eq_none h'] at h2; cases h2
      rw [← h.1] at this; omega
    · exact ⟨rfl, hs⟩
/-- a slice of views' books, of views' cells, of views' intents that is in memory now -/
def Sbk (w : World) (s : Sl) (l : List ((Nat × Nat) × List E)) : Prop := ∃ xs, s.n = l.length ∧ s.n ≤ s.c ∧ s.n * 40 ≤ 140737488355328 ∧ Rg.Rs KB w w.heap.size s.a xs ∧ Bks w xs l
def Scs (w : World) (s : Sl) (l : List ((Nat × Nat) × List C)) : Prop := ∃ xs, s.n = l.length ∧ s.n ≤ s.c ∧ s.n * 40 ≤ 140737488355328 ∧ Rg.Rs KCs w w.heap.size s.a xs ∧ Css w xs l
def Sin (w : World) (s : Sl) (l : List ((Nat × Nat) × (Nat × Nat))) : Prop := s.n = l.length ∧ s.n ≤ s.c ∧ s.n * 32 ≤ 140737488355328 ∧ Rg.Rs KI w w.heap.size s.a l
theorem Sbk.all {w w' : World} {s : Sl} {l : List ((Nat × Nat) × List E)} (h : Sbk w s l) (hb : Below w.heap.size w w') : Sbk w' s l := by
  obtain ⟨xs, h1, h2, h3, h4, h5⟩ := h
  exact ⟨xs, h1, h2, h3, (h4.below hb).more hb.size, h5.all hb⟩
theorem Scs.all {w w' : World} {s : Sl} {l : List ((Nat × Nat) × List C)} (h : Scs w s l) (hb : Below w.heap.size w w') : Scs w' s l := by
  obtain ⟨xs, h1, h2, h3, h4, h5⟩ := h
  exact ⟨xs, h1, h2, h3, (h4.below hb).more hb.size, h5.all hb⟩
theorem Sin.all {w w' : World} {s : Sl} {l : List ((Nat × Nat) × (Nat × Nat))} (h : Sin w s l) (hb : Below w.heap.size w w') : Sin w' s l := ⟨h.1, h.2.1, h.2.2.1, (h.2.2.2.below hb).more hb.size⟩
/-- a state as a value -/
def stv (s : St) (b c i : Sl) : Value := .agg #[.slice b.a b.n b.c, .slice c.a c.n c.c, .slice i.a i.n i.c, .int .i64 (s.held.1 : Int), .int .i64 (s.held.2 : Int), .int .i64 s.inc, .int .i64 s.last]
/-- a state's lists are in memory now -/
def Sto (w : World) (s : St) (b c i : Sl) : Prop := Sbk w b s.books ∧ Scs w c s.cells ∧ Sin w i s.ints
theorem Sto.all {w w' : World} {s : St} {b c i : Sl} (h : Sto w s b c i) (hb : Below w.heap.size w w') : Sto w' s b c i := ⟨h.1.all hb, h.2.1.all hb, h.2.2.all hb⟩
/-- a state is answered -/
def RetSt (w : World) (s : St) (e : Ending) (w' : World) : Prop := ∃ b c i, e = .returned (stv s b c i) ∧ Sto w' s b c i ∧ Below w.heap.size w w'
/-- a state in a block of its own -/
def Sx (w : World) (g : Nat) (s : St) (b c i : Sl) : Prop := w.heap[g]? = some (.cells #[.slice b.a b.n b.c, .slice c.a c.n c.c, .slice i.a i.n i.c, .int .i64 (s.held.1 : Int), .int .i64 (s.held.2 : Int), .int .i64 s.inc, .int .i64 s.last] 28)
section
variable {w : World} {g : Nat} {s : St} {b c i : Sl}
theorem Sx.cs (h : Sx w g s b c i) : w.cell? ⟨g, 0, none⟩ = some (.slice b.a b.n b.c) ∧ w.cell? ⟨g, 1, none⟩ = some (.slice c.a c.n c.c) ∧ w.cell? ⟨g, 2, none⟩ = some (.slice i.a i.n i.c) ∧ w.cell? ⟨g, 3, none⟩ = some (.int .i64 (s.held.1 : Int)) ∧ w.cell? ⟨g, 4, none⟩ = some (.int .i64 (s.held.2 : Int)) ∧ w.cell? ⟨g, 5, none⟩ = some (.int .i64 s.inc) ∧ w.cell? ⟨g, 6, none⟩ = some (.int .i64 s.last) := by
  refine ⟨?_, ?_, ?_, ?_, ?_, ?_, ?_⟩ <;> (rw [cell_of_row _ _ _ _ _ _ h]; rfl)
theorem Sx.lt (h : Sx w g s b c i) : g < w.heap.size := by
  rcases Nat.lt_or_ge g w.heap.size with h' | h'
  · exact h'
  · unfold Sx at h; rw [Array.getElem?_eq_none h'] at h; cases h
theorem Sx.all {w' : World} (h : Sx w g s b c i) (hb : Below w.heap.size w w') : Sx w' g s b c i := (hb.block g h.lt).trans h
theorem Sx.frozen (h : Sx w g s b c i) (j : Nat) : w.frozen? ⟨g, j, none⟩ = false := frozen_of_row w g j _ _ h
theorem Sx.other (h : Sx w g s b c i) {p : Addr} (hp : g ≠ p.block) (u : Value) : Sx (w.setCell p u) g s b c i := (Below.heap_setCell w p u g hp).trans h
theorem Sx.put1 (h : Sx w g s b c i) (j : Nat) (u : Value) (s2 : St) (b2 c2 i2 : Sl) (he : (#[.slice b.a b.n b.c, .slice c.a c.n c.c, .slice i.a i.n i.c, .int .i64 (s.held.1 : Int), .int .i64 (s.held.2 : Int), .int .i64 s.inc, .int .i64 s.last] : Array Value).setIfInBounds j u = #[.slice b2.a b2.n b2.c, .slice c2.a c2.n c2.c, .slice i2.a i2.n i2.c, .int .i64 (s2.held.1 : Int), .int .i64 (s2.held.2 : Int), .int .i64 s2.inc, .int .i64 s2.last]) : Sx (w.setCell ⟨g, j, none⟩ u) g s2 b2 c2 i2 := by
  unfold Sx at h ⊢
  rw [heap_setCell_same w g j _ _ _ h]
  exact congrArg (fun c => some (Obj.cells c 28 (0, 0))) he
theorem results_state {fn : Func} {p : Tmp} (h : fn.results = #[.cell p 28]) {tmps : Array Value} (hp : tmps.getD p undef = .pointer (some ⟨g, 0, none⟩)) (hv : Sx w g s b c i) : (results fn tmps).run Tryz.prog w = .ok (stv s b c i) w := by
  obtain ⟨z0, z1, z2, z3, z4, z5, z6⟩ := hv.cs
  have u3 := Tryz.sizeOf28
  have hp' : tmps[p]?.getD undef = .pointer (some ⟨g, 0, none⟩) := by rw [← hp, Array.getD_eq_getD_getElem?]
  unfold results stv
  simp only [h]
  simp [hp', go_sem, z0, z1, z2, z3, z4, z5, z6]
end
/-- one entry, one cell in a slice -/
theorem so_one (w : World) (e : E) (he : WfE e) : So (w.alloc (.cells #[.int .i64 e.key, .int .i64 e.num, .int .i64 e.node, .float .f64 e.val] 58)) (some ⟨w.heap.size, 0, none⟩) 1 1 [e] :=
  ⟨rfl, Nat.le_refl _, by omega, by simpa using he, by have := re_new w [e]; rw [show (w.alloc (.cells #[.int .i64 e.key, .int .i64 e.num, .int .i64 e.node, .float .f64 e.val] 58)).heap.size = w.heap.size + 1 by simp]; exact this⟩
theorem sc_one (w : World) (x : C) : Sc (w.alloc (.cells #[.int .i64 x.1, .int .i64 x.2.1, .int .i64 x.2.2] 53)) (some ⟨w.heap.size, 0, none⟩) 1 1 [x] :=
  ⟨rfl, Nat.le_refl _, by omega, by have := one_tri w x; rw [show (w.alloc (.cells #[.int .i64 x.1, .int .i64 x.2.1, .int .i64 x.2.2] 53)).heap.size = w.heap.size + 1 by simp]; exact this⟩
theorem so_none (w : World) (g c : Nat) : So w (some ⟨g, 0, none⟩) 0 c [] := ⟨rfl, Nat.zero_le _, by omega, by simp, Re.nil⟩
theorem sc_none (w : World) (g c : Nat) : Sc w (some ⟨g, 0, none⟩) 0 c [] := ⟨rfl, Nat.zero_le _, by omega, Rg.Rs.nil⟩
/-- records that can be: their views -/
theorem okr_view {r : R} (h : OkR r) : (r.va = ((rvw r).1 : Int) ∧ r.vd = ((rvw r).2 : Int)) ∧ V64 (rvw r) ∧ (r.ca = ((rch r).1 : Int) ∧ r.cd = ((rch r).2 : Int)) ∧ V64 (rch r) := by
  unfold rvw rch V64
  simp only
  rcases right_cases r h.1 with h | h | h | h | h <;> omega
theorem view_beq {r : R} (h : OkR r) (q : (Nat × Nat)) : (r.va == (q.1 : Int) && r.vd == (q.2 : Int)) = decide (rvw r = q) := by
  have hv := (okr_view h).1
  rw [hv.1, hv.2, Bool.eq_iff_iff]
  simp only [Bool.and_eq_true, beq_iff_eq, decide_eq_true_iff]
  rw [Prod.ext_iff]
  omega
end Go.Proofs.YtfblnomkafimhaaGreat.Fow

namespace Go.Proofs.YtfblnomkafimhaaGreat.Fow
set_option maxRecDepth 20000
open Go.RowKit
open Cl Bk Lg Fo Clw Bkw
open Lgw (rvv Rx KR Sr Elv elv_at)
open Chgw (hat hbe vw)
open Rg (bal)

theorem so_ownE {w : World} {base : Nat} {A : Option Addr} {n c : Nat} {es : List E} (h : OwnE w base A n c es) (hw : ∀ e ∈ es, WfE e) (hl : es.length * 32 ≤ 140737488355328) : So w A n c es := ⟨h.1, h.cap, by rw [h.1]; exact hl, hw, h.re⟩
theorem bookF_len : ∀ (l : List E) (p : Int), chk p l = true → l = [] ∨ (l.length : Int) ≤ 3 - p
  | [], _, _ => Or.inl rfl
  | x :: l, p, hp => by
    have hx := (chk_mem (x :: l) p hp x (by simp))
    have h1 := (okE_iff x).1 hx.1
    unfold chk at hp
    rw [Bool.and_eq_true] at hp
    rcases bookF_len l x.key hp.2 with h2 | h2
    · subst h2; right; simp; omega
    · right; rw [List.length_cons]; omega
theorem book_lenF {l : List E} (h : isBook l = true) : l.length * 32 ≤ 140737488355328 := by
  rcases bookF_len l (-1) h with h1 | h1
  · subst h1; simp
  · omega
theorem from_all : ∀ (l : List R) (o : List E) (q : (Nat × Nat)), (∀ r ∈ l, OkR r) → isBook o = true → (∀ e ∈ o, WfE e) → isBook (bookFrom o l q) = true ∧ ∀ e ∈ bookFrom o l q, WfE e
  | [], o, _, _, h1, h2 => ⟨h1, h2⟩
  | r :: l, o, q, hr, h1, h2 => by
    unfold bookFrom
    rw [List.foldl_cons]
    by_cases e : r.kind = 1 ∧ rvw r = q
    · rw [if_pos e]
      have he := ((okr (hr r (by simp))).1 e.1).2
      exact from_all l _ q (fun x hx => hr x (by simp [hx])) (merge_book _ _ h1 (one_book he)) (wfe_merge h1 (one_book he) h2 (by simpa using (hr r (by simp)).2))
    · rw [if_neg e]
      exact from_all l _ q (fun x hx => hr x (by simp [hx])) h1 h2
theorem wf_from (l : List R) (h : ∀ r ∈ l, OkR r) (k : Nat) (q : (Nat × Nat)) : ∀ e ∈ bookFrom [] (l.take k) q, WfE e := (from_all (l.take k) [] q (fun r hr => h r (List.mem_of_mem_take hr)) rfl (by simp)).2
theorem take_snocR {α : Type} {l : List α} {k : Nat} {x : α} (h : l[k]? = some x) : l.take (k + 1) = l.take k ++ [x] := by
  rw [List.take_add_one, h]; rfl
set_option maxHeartbeats 4000000 in
theorem book_o (A : Option Addr) (n c : Nat) (l : List R) (q : (Nat × Nat)) (w : World) (h : Sr w A n c l) (hok : ∀ r ∈ l, OkR r) : Calls Tryz.prog 28 #[.slice A n c, .agg #[.int .i64 (q.1 : Int), .int .i64 (q.2 : Int)]] w (RetOwnE w w.heap.size (bookL l q)) := by
  have heq := Chgw.eq_view
  have hsf := Lgw.store_flt
  have HN := Lib.hid h.1; have HR := Lib.hid h.2.2.2.2; have HOK := Lib.hid hok
  have hl : n * 88 ≤ 140737488355328 := h.2.2.1
  clear h hok
  go_enter Tryz.func28, Tryz.ntmps28
  go_upto_region 2 with (fail)
  have HV := Lib.hid (show Chgw.Vi ((w.alloc (.cells #[.int .i64 (q.1 : Int), .int .i64 (q.2 : Int)] 26)).alloc (.cells #[] 58)) w.heap.size (q.1 : Int) (q.2 : Int) from hbe (hat _ _ _ rfl))
  have HS := Lib.hid (show OwnE ((w.alloc (.cells #[.int .i64 (q.1 : Int), .int .i64 (q.2 : Int)] 26)).alloc (.cells #[] 58)) w.heap.size (some ⟨w.heap.size + 1, 0, none⟩) 0 0 (bookFrom [] (l.take 0) q) from ownE_new _ _ _ (by simp) (by simp))
  have HB := Lib.hid (bal (bal (Below.refl w.heap.size w) (Nat.le_refl _) (.cells #[.int .i64 (q.1 : Int), .int .i64 (q.2 : Int)] 26)) (Nat.le_refl _) (.cells #[] 58))
  generalize (w.alloc (.cells #[.int .i64 (q.1 : Int), .int .i64 (q.2 : Int)] 26)).alloc (.cells #[] 58) = w1 at HV HS HB ⊢
  generalize hg : w.heap.size = g at HV HS ⊢
  have HG := Lib.hid hg; clear hg
  go_wp2
  go_loopw [5, 11] (fun x i wr => ∃ (A3 : Option Addr) (n3 c3 k : Nat), x = .slice A3 n3 c3 ∧ i = .int .i64 k ∧ k ≤ n ∧ OwnE wr w.heap.size A3 n3 c3 (bookFrom [] (l.take k) q) ∧ isBook (bookFrom [] (l.take k) q) = true ∧ Chgw.Vi wr g (q.1 : Int) (q.2 : Int) ∧ Below w.heap.size w wr) (fun _ i _ => n - (intOf i).toNat)
  case atStart => exact ⟨_, 0, 0, 0, rfl, rfl, by omega, by rw [HG.out]; exact HS.out, rfl, HV.out, HB.out⟩
  case round =>
    clear HV HS HB
    rename World => wl
    obtain ⟨A3, n3, c3, k, rfl, rfl, hk, hs, hib, hv, hb⟩ := hrel
    have HS := Lib.hid hs; have HIB := Lib.hid hib; have HV := Lib.hid hv; have HB := Lib.hid hb
    clear hs hib hv hb
    by_cases h : k < n
    · obtain ⟨b, o, rfl, hbB, hcell⟩ := HR.out (by rw [← HN.out]; omega)
      have hkl : k < l.length := by rw [← HN.out]; exact h
      have hz : l[k]? = some l[k] := List.getElem?_eq_getElem hkl
      have hc0 := elv_at (fun j u hu => (HB.out.cell (p := ⟨b, o + k * KR.k + j, none⟩) hbB).trans (hcell k l[k] hz j u hu))
      have hor := HOK.out l[k] (List.getElem_mem hkl)
      have HNX : Hid (bookFrom [] (l.take (k + 1)) q = if l[k].kind = 1 ∧ rvw l[k] = q then merge (bookFrom [] (l.take k) q) [l[k].e] else bookFrom [] (l.take k) q) := Lib.hid (by
        unfold bookFrom
        rw [take_snocR hz, List.foldl_append]
        rfl)
      generalize l[k] = r at hc0 hor HNX
      have HVB := Lib.hid (view_beq hor q)
      have HOR := Lib.hid (okr hor); have HWR := Lib.hid hor.2
      clear hz hcell hkl hor hbB
      rw [show KR.k = 11 from rfl] at hc0
      obtain ⟨x0, x1, x2, x3, x4, x5, x6, x7, x8, x9, x10⟩ := hc0
      go_upto_region 5 with (fail)
      have HX := Lib.hid (show Rx (wl.alloc (.cells #[.int .i64 r.kind, .int .i64 r.va, .int .i64 r.vd, .int .i64 r.cn, .int .i64 r.ca, .int .i64 r.cd, .int .i64 r.e.key, .int .i64 r.e.num, .int .i64 r.e.node, .float .f64 r.e.val, .int .i64 r.n] 60)) wl.heap.size r from hat _ _ _ rfl)
      have hbx := bal (Below.refl wl.heap.size wl) (Nat.le_refl _) (.cells #[.int .i64 r.kind, .int .i64 r.va, .int .i64 r.vd, .int .i64 r.cn, .int .i64 r.ca, .int .i64 r.cd, .int .i64 r.e.key, .int .i64 r.e.num, .int .i64 r.e.node, .float .f64 r.e.val, .int .i64 r.n] 60)
      have HS := Lib.hid (HS.out.below hbx (Nat.le_refl _)); have HV := Lib.hid (show Chgw.Vi (wl.alloc (.cells #[.int .i64 r.kind, .int .i64 r.va, .int .i64 r.vd, .int .i64 r.cn, .int .i64 r.ca, .int .i64 r.cd, .int .i64 r.e.key, .int .i64 r.e.num, .int .i64 r.e.node, .float .f64 r.e.val, .int .i64 r.n] 60)) g (q.1 : Int) (q.2 : Int) from hbe HV.out)
      have HB := Lib.hid (HB.out.trans (hbx.mono HB.out.size)); clear hbx x0 x1 x2 x3 x4 x5 x6 x7 x8 x9 x10
      generalize wl.alloc (.cells #[.int .i64 r.kind, .int .i64 r.va, .int .i64 r.vd, .int .i64 r.cn, .int .i64 r.ca, .int .i64 r.cd, .int .i64 r.e.key, .int .i64 r.e.num, .int .i64 r.e.node, .float .f64 r.e.val, .int .i64 r.n] 60) = wm at HX HS HV HB ⊢
      generalize wl.heap.size = gr at HX ⊢
      obtain ⟨y0, y1, y2, y3, y4, y5, y6, y7, y8, y9, y10⟩ := HX.out.cs
      have v0 := HV.out.c0; have v1 := HV.out.c1
      by_cases hk1 : r.kind = 1
      · have hq : (r.kind == 1) = true := by rw [beq_iff_eq]; exact hk1
        by_cases hvq : rvw r = q
        · have hve : (r.va == (q.1 : Int) && r.vd == (q.2 : Int)) = true := by rw [HVB.out]; exact decide_eq_true hvq
          rw [if_pos ⟨hk1, hvq⟩] at HNX
          have HIB2 := Lib.hid (merge_book _ _ HIB.out (one_book (HOR.out.1 hk1).2))
          have HMG : Hid (∀ (W : World) (h1 : So W (some ⟨wm.heap.size, 0, none⟩) 1 1 [r.e]) (h2 : So W A3 n3 c3 (bookFrom [] (l.take k) q)), Calls Tryz.prog 66 #[.slice A3 n3 c3, .slice (some ⟨wm.heap.size, 0, none⟩) 1 1] W (RetOwnE W W.heap.size (merge (bookFrom [] (l.take k) q) [r.e]))) := Lib.hid (fun W h1 h2 => Bkw.merge_r A3 n3 c3 _ h2.1 (by have := h2.2.2.1; omega) _ 1 1 [r.e] h1.1 (by omega) _ W h2.2.2.2.2 h1.2.2.2.2 (Nat.le_refl _))
          have HWF := Lib.hid (wf_from l HOK.out k q); have HLN := Lib.hid (book_lenF HIB.out)
          have HSO := Lib.hid (so_one wm r.e HWR.out)
          clear hk1 hvq HVB HOR HWR
          go_wp2_with fail
          have hbx := bal (Below.refl wm.heap.size wm) (Nat.le_refl _) (.cells #[.int .i64 r.e.key, .int .i64 r.e.num, .int .i64 r.e.node, .float .f64 r.e.val] 58)
          have HMC := Lib.hid (HMG.out _ HSO.out ((so_ownE HS.out HWF.out HLN.out).all hbx)); have HSB := Lib.hid (Nat.le_trans HB.out.size hbx.size)
          have HV := Lib.hid (show Chgw.Vi (wm.alloc (.cells #[.int .i64 r.e.key, .int .i64 r.e.num, .int .i64 r.e.node, .float .f64 r.e.val] 58)) g (q.1 : Int) (q.2 : Int) from hbe HV.out)
          have HB := Lib.hid (HB.out.trans (hbx.mono HB.out.size)); clear hbx
          generalize wm.alloc (.cells #[.int .i64 r.e.key, .int .i64 r.e.num, .int .i64 r.e.node, .float .f64 r.e.val] 58) = wn at HMC HV HB HSB ⊢
          generalize wm.heap.size = ge at HMC ⊢
          refine HMC.out.mono ?_
          rintro e w5 ⟨A5, n5, c5, rfl, hs5, hb5⟩
          have HS5 := Lib.hid (hs5.base HSB.out)
          have HV := Lib.hid (show Chgw.Vi w5 g (q.1 : Int) (q.2 : Int) from (hb5.block g (Array.getElem?_eq_some_iff.1 HV.out).1).trans HV.out)
          have HB := Lib.hid (HB.out.trans (hb5.mono HB.out.size))
          clear hs5 hb5 y0 y1 y2 y3 y4 y5 y6 y7 y8 y9 y10 v0 v1 hq hve
          go_wp2
          exact ⟨⟨A5, n5, c5, k + 1, rfl, by go_num, by omega, by rw [HNX.out]; exact HS5.out, by rw [HNX.out]; exact HIB2.out, HV.out, HB.out⟩, by simp [intOf]; omega⟩
        · have hve : (r.va == (q.1 : Int) && r.vd == (q.2 : Int)) = false := by rw [HVB.out]; exact decide_eq_false hvq
          rw [if_neg (fun h => hvq h.2)] at HNX
          clear hk1 hvq HVB HOR HWR
          go_wp2
          exact ⟨⟨A3, n3, c3, k + 1, rfl, by go_num, by omega, by rw [HNX.out]; exact HS.out, by rw [HNX.out]; exact HIB.out, HV.out, HB.out⟩, by simp [intOf]; omega⟩
      · have hq : (r.kind == 1) = false := by rw [beq_eq_false_iff_ne]; exact hk1
        rw [if_neg (fun h => hk1 h.1)] at HNX
        clear hk1 HVB HOR HWR
        go_wp2
        exact ⟨⟨A3, n3, c3, k + 1, rfl, by go_num, by omega, by rw [HNX.out]; exact HS.out, by rw [HNX.out]; exact HIB.out, HV.out, HB.out⟩, by simp [intOf]; omega⟩
    · have hkn : k = n := by omega
      have HS := Lib.hid (show OwnE wl w.heap.size A3 n3 c3 (bookL l q) from by have := HS.out; rwa [List.take_of_length_le (by have := HN.out; omega)] at this)
      have hj : ¬ ((k : Int) < (n : Int)) := by omega
      clear hkn h hk
      go_wp2
      go_ret
      exact ⟨A3, n3, c3, rfl, HS.out, HB.out⟩
set_option maxHeartbeats 4000000 in
theorem cells_o (A : Option Addr) (n c : Nat) (l : List R) (q : (Nat × Nat)) (w : World) (h : Sr w A n c l) (hok : ∀ r ∈ l, OkR r) : Calls Tryz.prog 30 #[.slice A n c, .agg #[.int .i64 (q.1 : Int), .int .i64 (q.2 : Int)]] w (Rg.RetOwnG KC w w.heap.size (cellsL l q)) := by
  have heq := Chgw.eq_view
  have hsf := Lgw.store_flt
  have HN := Lib.hid h.1; have HR := Lib.hid h.2.2.2.2; have HOK := Lib.hid hok
  have hl : n * 88 ≤ 140737488355328 := h.2.2.1
  clear h hok
  go_enter Tryz.func30, Tryz.ntmps30
  go_upto_region 2 with (fail)
  have HV := Lib.hid (show Chgw.Vi ((w.alloc (.cells #[.int .i64 (q.1 : Int), .int .i64 (q.2 : Int)] 26)).alloc (.cells #[] 53)) w.heap.size (q.1 : Int) (q.2 : Int) from hbe (hat _ _ _ rfl))
  have HS := Lib.hid (show Rg.OwnG KC ((w.alloc (.cells #[.int .i64 (q.1 : Int), .int .i64 (q.2 : Int)] 26)).alloc (.cells #[] 53)) w.heap.size (some ⟨w.heap.size + 1, 0, none⟩) 0 0 (cellsFrom [] (l.take 0) q) from Rg.own_newG KC _ _ _ (by simp) (by simp))
  have HB := Lib.hid (bal (bal (Below.refl w.heap.size w) (Nat.le_refl _) (.cells #[.int .i64 (q.1 : Int), .int .i64 (q.2 : Int)] 26)) (Nat.le_refl _) (.cells #[] 53))
  generalize (w.alloc (.cells #[.int .i64 (q.1 : Int), .int .i64 (q.2 : Int)] 26)).alloc (.cells #[] 53) = w1 at HV HS HB ⊢
  generalize hg : w.heap.size = g at HV HS ⊢
  have HG := Lib.hid hg; clear hg
  go_wp2
  go_loopw [5, 11] (fun x i wr => ∃ (A3 : Option Addr) (n3 c3 k : Nat), x = .slice A3 n3 c3 ∧ i = .int .i64 k ∧ k ≤ n ∧ Rg.OwnG KC wr w.heap.size A3 n3 c3 (cellsFrom [] (l.take k) q) ∧ isCl (cellsFrom [] (l.take k) q) = true ∧ Chgw.Vi wr g (q.1 : Int) (q.2 : Int) ∧ Below w.heap.size w wr) (fun _ i _ => n - (intOf i).toNat)
  case atStart => exact ⟨_, 0, 0, 0, rfl, rfl, by omega, by rw [HG.out]; exact HS.out, rfl, HV.out, HB.out⟩
  case round =>
    clear HV HS HB
    rename World => wl
    obtain ⟨A3, n3, c3, k, rfl, rfl, hk, hs, hib, hv, hb⟩ := hrel
    have HS := Lib.hid hs; have HIB := Lib.hid hib; have HV := Lib.hid hv; have HB := Lib.hid hb
    clear hs hib hv hb
    by_cases h : k < n
    · obtain ⟨b, o, rfl, hbB, hcell⟩ := HR.out (by rw [← HN.out]; omega)
      have hkl : k < l.length := by rw [← HN.out]; exact h
      have hz : l[k]? = some l[k] := List.getElem?_eq_getElem hkl
      have hc0 := elv_at (fun j u hu => (HB.out.cell (p := ⟨b, o + k * KR.k + j, none⟩) hbB).trans (hcell k l[k] hz j u hu))
      have hor := HOK.out l[k] (List.getElem_mem hkl)
      have HNX : Hid (cellsFrom [] (l.take (k + 1)) q = if l[k].kind = 2 ∧ rvw l[k] = q then mergeC (cellsFrom [] (l.take k) q) [rcell l[k]] else cellsFrom [] (l.take k) q) := Lib.hid (by
        unfold cellsFrom
        rw [take_snocR hz, List.foldl_append]
        rfl)
      generalize l[k] = r at hc0 hor HNX
      have HVB := Lib.hid (view_beq hor q)
      have HOR := Lib.hid (okr hor); have HWR := Lib.hid hor.2
      clear hz hcell hkl hor hbB
      rw [show KR.k = 11 from rfl] at hc0
      obtain ⟨x0, x1, x2, x3, x4, x5, x6, x7, x8, x9, x10⟩ := hc0
      go_upto_region 5 with (fail)
      have HX := Lib.hid (show Rx (wl.alloc (.cells #[.int .i64 r.kind, .int .i64 r.va, .int .i64 r.vd, .int .i64 r.cn, .int .i64 r.ca, .int .i64 r.cd, .int .i64 r.e.key, .int .i64 r.e.num, .int .i64 r.e.node, .float .f64 r.e.val, .int .i64 r.n] 60)) wl.heap.size r from hat _ _ _ rfl)
      have hbx := bal (Below.refl wl.heap.size wl) (Nat.le_refl _) (.cells #[.int .i64 r.kind, .int .i64 r.va, .int .i64 r.vd, .int .i64 r.cn, .int .i64 r.ca, .int .i64 r.cd, .int .i64 r.e.key, .int .i64 r.e.num, .int .i64 r.e.node, .float .f64 r.e.val, .int .i64 r.n] 60)
      have HS := Lib.hid (HS.out.below hbx (Nat.le_refl _)); have HV := Lib.hid (show Chgw.Vi (wl.alloc (.cells #[.int .i64 r.kind, .int .i64 r.va, .int .i64 r.vd, .int .i64 r.cn, .int .i64 r.ca, .int .i64 r.cd, .int .i64 r.e.key, .int .i64 r.e.num, .int .i64 r.e.node, .float .f64 r.e.val, .int .i64 r.n] 60)) g (q.1 : Int) (q.2 : Int) from hbe HV.out)
      have HB := Lib.hid (HB.out.trans (hbx.mono HB.out.size)); clear hbx x0 x1 x2 x3 x4 x5 x6 x7 x8 x9 x10
      generalize wl.alloc (.cells #[.int .i64 r.kind, .int .i64 r.va, .int .i64 r.vd, .int .i64 r.cn, .int .i64 r.ca, .int .i64 r.cd, .int .i64 r.e.key, .int .i64 r.e.num, .int .i64 r.e.node, .float .f64 r.e.val, .int .i64 r.n] 60) = wm at HX HS HV HB ⊢
      generalize wl.heap.size = gr at HX ⊢
      obtain ⟨y0, y1, y2, y3, y4, y5, y6, y7, y8, y9, y10⟩ := HX.out.cs
      have v0 := HV.out.c0; have v1 := HV.out.c1
      by_cases hk1 : r.kind = 2
      · have hq : (r.kind == 2) = true := by rw [beq_iff_eq]; exact hk1
        by_cases hvq : rvw r = q
        · have hve : (r.va == (q.1 : Int) && r.vd == (q.2 : Int)) = true := by rw [HVB.out]; exact decide_eq_true hvq
          rw [if_pos ⟨hk1, hvq⟩] at HNX
          have HIB2 := Lib.hid (merge_cl HIB.out (one_cl (HOR.out.2.1 hk1).2))
          have HMG : Hid (∀ (W : World) (h1 : Sc W (some ⟨wm.heap.size, 0, none⟩) 1 1 [rcell r]) (h2 : Sc W A3 n3 c3 (cellsFrom [] (l.take k) q)), Calls Tryz.prog 67 #[.slice A3 n3 c3, .slice (some ⟨wm.heap.size, 0, none⟩) 1 1] W (Rg.RetOwnG KC W W.heap.size (mergeC (cellsFrom [] (l.take k) q) [rcell r]))) := Lib.hid (fun W h1 h2 => Clw.merge_ro A3 n3 c3 _ _ 1 1 [rcell r] W h2 h1)
          have HLN := Lib.hid (show (cellsFrom [] (l.take k) q).length * 24 ≤ 140737488355328 from by have := cl_len HIB.out; omega)
          have HSO := Lib.hid (show Sc (wm.alloc (.cells #[.int .i64 r.cn, .int .i64 r.ca, .int .i64 r.cd] 53)) (some ⟨wm.heap.size, 0, none⟩) 1 1 [rcell r] from sc_one wm (rcell r))
          clear hk1 hvq HVB HOR HWR
          go_wp2_with fail
          have hbx := bal (Below.refl wm.heap.size wm) (Nat.le_refl _) (.cells #[.int .i64 r.cn, .int .i64 r.ca, .int .i64 r.cd] 53)
          have HMC := Lib.hid (HMG.out _ HSO.out ((Sc.own HS.out HLN.out).all hbx)); have HSB := Lib.hid (Nat.le_trans HB.out.size hbx.size)
          have HV := Lib.hid (show Chgw.Vi (wm.alloc (.cells #[.int .i64 r.cn, .int .i64 r.ca, .int .i64 r.cd] 53)) g (q.1 : Int) (q.2 : Int) from hbe HV.out)
          have HB := Lib.hid (HB.out.trans (hbx.mono HB.out.size)); clear hbx
          generalize wm.alloc (.cells #[.int .i64 r.cn, .int .i64 r.ca, .int .i64 r.cd] 53) = wn at HMC HV HB HSB ⊢
          generalize wm.heap.size = ge at HMC ⊢
          refine HMC.out.mono ?_
          rintro e w5 ⟨A5, n5, c5, rfl, hs5, hb5⟩
          have HS5 := Lib.hid (hs5.base HSB.out)
          have HV := Lib.hid (show Chgw.Vi w5 g (q.1 : Int) (q.2 : Int) from (hb5.block g (Array.getElem?_eq_some_iff.1 HV.out).1).trans HV.out)
          have HB := Lib.hid (HB.out.trans (hb5.mono HB.out.size))
          clear hs5 hb5 y0 y1 y2 y3 y4 y5 y6 y7 y8 y9 y10 v0 v1 hq hve
          go_wp2
          exact ⟨⟨A5, n5, c5, k + 1, rfl, by go_num, by omega, by rw [HNX.out]; exact HS5.out, by rw [HNX.out]; exact HIB2.out, HV.out, HB.out⟩, by simp [intOf]; omega⟩
        · have hve : (r.va == (q.1 : Int) && r.vd == (q.2 : Int)) = false := by rw [HVB.out]; exact decide_eq_false hvq
          rw [if_neg (fun h => hvq h.2)] at HNX
          clear hk1 hvq HVB HOR HWR
          go_wp2
          exact ⟨⟨A3, n3, c3, k + 1, rfl, by go_num, by omega, by rw [HNX.out]; exact HS.out, by rw [HNX.out]; exact HIB.out, HV.out, HB.out⟩, by simp [intOf]; omega⟩
      · have hq : (r.kind == 2) = false := by rw [beq_eq_false_iff_ne]; exact hk1
        rw [if_neg (fun h => hk1 h.1)] at HNX
        clear hk1 HVB HOR HWR
        go_wp2
        exact ⟨⟨A3, n3, c3, k + 1, rfl, by go_num, by omega, by rw [HNX.out]; exact HS.out, by rw [HNX.out]; exact HIB.out, HV.out, HB.out⟩, by simp [intOf]; omega⟩
    · have hkn : k = n := by omega
      have HS := Lib.hid (show Rg.OwnG KC wl w.heap.size A3 n3 c3 (cellsL l q) from by have := HS.out; rwa [List.take_of_length_le (by have := HN.out; omega)] at this)
      have hj : ¬ ((k : Int) < (n : Int)) := by omega
      clear hkn h hk
      go_wp2
      go_ret
      exact ⟨A3, n3, c3, rfl, HS.out, HB.out⟩
/-- what one meant to write is answered -/
def inV (o : Option (Nat × Nat)) : (Nat × Nat) := o.getD (0, 0)
theorem intL_take {l : List R} {q : (Nat × Nat)} {k : Nat} {r : R} (hz : l[k]? = some r) (hno : intL (l.take k) q = none) (h : r.kind = 5 ∧ rvw r = q) : intL l q = some (rch r) := by
  have e : l = l.take k ++ r :: l.drop (k + 1) := by
    conv => lhs; rw [← List.take_append_drop k l]
    congr 1
    rw [List.drop_eq_getElem_cons (by
      rcases Nat.lt_or_ge k l.length with h' | h'
      · exact h'
      · rw [List.getElem?_eq_none h'] at hz; cases hz)]
    congr 1
    rcases Nat.lt_or_ge k l.length with h' | h'
    · rw [List.getElem?_eq_getElem h'] at hz; exact Option.some.inj hz
    · rw [List.getElem?_eq_none h'] at hz; cases hz
  rw [e]
  unfold intL at hno ⊢
  rw [Option.map_eq_none_iff] at hno
  rw [List.find?_append, hno, Option.none_or, List.find?_cons, decide_eq_true h]
  rfl
theorem intL_snoc {l : List R} {q : (Nat × Nat)} {k : Nat} {r : R} (hz : l[k]? = some r) (hno : intL (l.take k) q = none) (h : ¬ (r.kind = 5 ∧ rvw r = q)) : intL (l.take (k + 1)) q = none := by
  rw [take_snocR hz]
  unfold intL at hno ⊢
  rw [Option.map_eq_none_iff] at hno
  rw [List.find?_append, hno, Option.none_or, List.find?_cons, decide_eq_false h]
  rfl
set_option maxHeartbeats 4000000 in
theorem intent_o (A : Option Addr) (n c : Nat) (l : List R) (q : (Nat × Nat)) (w : World) (h : Sr w A n c l) (hok : ∀ r ∈ l, OkR r) : Calls Tryz.prog 22 #[.slice A n c, .agg #[.int .i64 (q.1 : Int), .int .i64 (q.2 : Int)]] w fun e w' => e = .returned (.tuple #[.agg #[.int .i64 ((inV (intL l q)).1 : Int), .int .i64 ((inV (intL l q)).2 : Int)], .bool (intL l q).isSome]) ∧ Below w.heap.size w w' := by
  have heq := Chgw.eq_view
  have hsf := Lgw.store_flt
  have HN := Lib.hid h.1; have HR := Lib.hid h.2.2.2.2; have HOK := Lib.hid hok
  have hl : n * 88 ≤ 140737488355328 := h.2.2.1
  clear h hok
  go_enter Tryz.func22, Tryz.ntmps22
  go_upto_region 1 with (fail)
  have HV := Lib.hid (show Chgw.Vi ((w.alloc (.cells #[.int .i64 (q.1 : Int), .int .i64 (q.2 : Int)] 26)).alloc (.cells #[.int .i64 0, .int .i64 0] 26)) w.heap.size (q.1 : Int) (q.2 : Int) from hbe (hat _ _ _ rfl))
  have HO := Lib.hid (show Chgw.Vx ((w.alloc (.cells #[.int .i64 (q.1 : Int), .int .i64 (q.2 : Int)] 26)).alloc (.cells #[.int .i64 0, .int .i64 0] 26)) (w.heap.size + 1) 0 0 from hat _ _ _ (by simp))
  have HB := Lib.hid (bal (bal (Below.refl w.heap.size w) (Nat.le_refl _) (.cells #[.int .i64 (q.1 : Int), .int .i64 (q.2 : Int)] 26)) (Nat.le_refl _) (.cells #[.int .i64 0, .int .i64 0] 26))
  generalize (w.alloc (.cells #[.int .i64 (q.1 : Int), .int .i64 (q.2 : Int)] 26)).alloc (.cells #[.int .i64 0, .int .i64 0] 26) = w1 at HV HO HB ⊢
  have HGO : Hid (w.heap.size ≤ w.heap.size + 1) := Lib.hid (by omega)
  generalize hgo : w.heap.size + 1 = go at HO HGO ⊢
  clear hgo
  generalize hg : w.heap.size = g at HV ⊢
  have HG := Lib.hid hg; clear hg
  go_wp2
  go_loopw [10] (fun i wr => ∃ k : Nat, i = .int .i64 k ∧ k ≤ n ∧ intL (l.take k) q = none ∧ Chgw.Vi wr g (q.1 : Int) (q.2 : Int) ∧ Chgw.Vx wr go 0 0 ∧ Below w.heap.size w wr) (fun i _ => n - (intOf i).toNat)
  case atStart => exact ⟨0, rfl, by omega, rfl, HV.out, HO.out, HB.out⟩
  case round =>
    clear HV HO HB
    rename World => wl
    obtain ⟨k, rfl, hk, hno, hv, hvo, hb⟩ := hrel
    have HNO := Lib.hid hno; have HV := Lib.hid hv; have HO := Lib.hid hvo; have HB := Lib.hid hb
    clear hno hv hvo hb
    by_cases h : k < n
    · obtain ⟨b, o, rfl, hbB, hcell⟩ := HR.out (by rw [← HN.out]; omega)
      have hkl : k < l.length := by rw [← HN.out]; exact h
      have hz : l[k]? = some l[k] := List.getElem?_eq_getElem hkl
      have hc0 := elv_at (fun j u hu => (HB.out.cell (p := ⟨b, o + k * KR.k + j, none⟩) hbB).trans (hcell k l[k] hz j u hu))
      have hor := HOK.out l[k] (List.getElem_mem hkl)
      have HYE := Lib.hid (intL_take (q := q) hz HNO.out); have HNE := Lib.hid (intL_snoc (q := q) hz HNO.out)
      generalize l[k] = r at hc0 hor HYE HNE
      have HVB := Lib.hid (view_beq hor q)
      have HRC := Lib.hid (okr_view hor).2.2.1
      clear hz hcell hkl hor hbB
      rw [show KR.k = 11 from rfl] at hc0
      obtain ⟨x0, x1, x2, x3, x4, x5, x6, x7, x8, x9, x10⟩ := hc0
      go_upto_region 4 with (fail)
      have HX := Lib.hid (show Rx (wl.alloc (.cells #[.int .i64 r.kind, .int .i64 r.va, .int .i64 r.vd, .int .i64 r.cn, .int .i64 r.ca, .int .i64 r.cd, .int .i64 r.e.key, .int .i64 r.e.num, .int .i64 r.e.node, .float .f64 r.e.val, .int .i64 r.n] 60)) wl.heap.size r from hat _ _ _ rfl)
      have hbx := bal (Below.refl wl.heap.size wl) (Nat.le_refl _) (.cells #[.int .i64 r.kind, .int .i64 r.va, .int .i64 r.vd, .int .i64 r.cn, .int .i64 r.ca, .int .i64 r.cd, .int .i64 r.e.key, .int .i64 r.e.num, .int .i64 r.e.node, .float .f64 r.e.val, .int .i64 r.n] 60)
      have HV := Lib.hid (show Chgw.Vi (wl.alloc (.cells #[.int .i64 r.kind, .int .i64 r.va, .int .i64 r.vd, .int .i64 r.cn, .int .i64 r.ca, .int .i64 r.cd, .int .i64 r.e.key, .int .i64 r.e.num, .int .i64 r.e.node, .float .f64 r.e.val, .int .i64 r.n] 60)) g (q.1 : Int) (q.2 : Int) from hbe HV.out)
      have HO := Lib.hid (show Chgw.Vx (wl.alloc (.cells #[.int .i64 r.kind, .int .i64 r.va, .int .i64 r.vd, .int .i64 r.cn, .int .i64 r.ca, .int .i64 r.cd, .int .i64 r.e.key, .int .i64 r.e.num, .int .i64 r.e.node, .float .f64 r.e.val, .int .i64 r.n] 60)) go 0 0 from hbe HO.out)
      have HB := Lib.hid (HB.out.trans (hbx.mono HB.out.size)); clear hbx x0 x1 x2 x3 x4 x5 x6 x7 x8 x9 x10
      generalize wl.alloc (.cells #[.int .i64 r.kind, .int .i64 r.va, .int .i64 r.vd, .int .i64 r.cn, .int .i64 r.ca, .int .i64 r.cd, .int .i64 r.e.key, .int .i64 r.e.num, .int .i64 r.e.node, .float .f64 r.e.val, .int .i64 r.n] 60) = wm at HX HV HO HB ⊢
      generalize wl.heap.size = gr at HX ⊢
      obtain ⟨y0, y1, y2, y3, y4, y5, y6, y7, y8, y9, y10⟩ := HX.out.cs
      have v0 := HV.out.c0; have v1 := HV.out.c1
      by_cases hk1 : r.kind = 5
      · have hq : (r.kind == 5) = true := by rw [beq_iff_eq]; exact hk1
        by_cases hvq : rvw r = q
        · have hve : (r.va == (q.1 : Int) && r.vd == (q.2 : Int)) = true := by rw [HVB.out]; exact decide_eq_true hvq
          have HE := Lib.hid (HYE.out ⟨hk1, hvq⟩)
          have o0 := HO.out.c0; have o1 := HO.out.c1
          have f0 := frozen_of_row wm go 0 _ _ HO.out; have f1 := frozen_of_row wm go 1 _ _ HO.out
          rw [HRC.out.1] at y4
          rw [HRC.out.2] at y5
          generalize rch r = ch at HE y4 y5
          obtain ⟨ca, cd⟩ := ch
          simp only at y4 y5
          clear hk1 hvq HVB HYE HNE HRC
          go_wp2
          refine bodyPost_ret (Chgw.results_view2 (g := go) (a := ca) (d := cd) (x := .bool true) rfl rfl rfl (HO.out.put ca cd)) rfl ?_
          rw [HE.out]
          exact ⟨rfl, (HB.out.setCell (p := ⟨go, 0, none⟩) HGO.out _).setCell (p := ⟨go, 1, none⟩) HGO.out _⟩
        · have hve : (r.va == (q.1 : Int) && r.vd == (q.2 : Int)) = false := by rw [HVB.out]; exact decide_eq_false hvq
          have HE := Lib.hid (HNE.out (fun h => hvq h.2))
          clear hk1 hvq HVB HYE HNE
          go_wp2
          exact ⟨⟨k + 1, by go_num, by omega, HE.out, HV.out, HO.out, HB.out⟩, by simp [intOf]; omega⟩
      · have hq : (r.kind == 5) = false := by rw [beq_eq_false_iff_ne]; exact hk1
        have HE := Lib.hid (HNE.out (fun h => hk1 h.1))
        clear hk1 HVB HYE HNE
        go_wp2
        exact ⟨⟨k + 1, by go_num, by omega, HE.out, HV.out, HO.out, HB.out⟩, by simp [intOf]; omega⟩
    · have hkn : k = n := by omega
      have HE := Lib.hid (show intL l q = none from by have := HNO.out; rwa [List.take_of_length_le (by have := HN.out; omega)] at this)
      have hj : ¬ ((k : Int) < (n : Int)) := by omega
      have o0 := HO.out.c0; have o1 := HO.out.c1
      have f0 := frozen_of_row wl go 0 _ _ HO.out; have f1 := frozen_of_row wl go 1 _ _ HO.out
      clear hkn h hk
      go_wp2
      refine bodyPost_ret (Chgw.results_view2 (g := go) (a := 0) (d := 0) (x := .bool false) rfl rfl rfl (HO.out.put 0 0)) rfl ?_
      rw [HE.out]
      exact ⟨rfl, (HB.out.setCell (p := ⟨go, 0, none⟩) HGO.out _).setCell (p := ⟨go, 1, none⟩) HGO.out _⟩
end Go.Proofs.YtfblnomkafimhaaGreat.Fow

namespace Go.Proofs.YtfblnomkafimhaaGreat.Fow
set_option maxRecDepth 20000
open Go.RowKit
open Cl Bk Lg Fo Clw Bkw
open Lgw (rvv Rx KR Sr Elv elv_at)
open Chgw (hat hbe vw)
open Rg (bal)

def vP (l : List R) (n : Nat) : Bool := l.any fun r => decide (writes r ∧ Vw.name2 (rvw r) = n)
def viewsUp (l : List R) (m : Nat) : List (Nat × Nat) := ((List.range m).filter (vP l)).map named2
theorem views_up (l : List R) : viewsL l = viewsUp l 4096 := rfl
theorem up_succ (l : List R) (m : Nat) : viewsUp l (m + 1) = viewsUp l m ++ (if vP l m then [named2 m] else []) := by
  unfold viewsUp
  rw [List.range_succ, List.filter_append, List.map_append]
  congr 1
  rw [List.filter_cons, List.filter_nil]
  cases vP l m <;> rfl
theorem up_skip (l : List R) (m : Nat) : ∀ j, (∀ n, m ≤ n → n < m + j → vP l n = false) → viewsUp l (m + j) = viewsUp l m
  | 0, _ => rfl
  | j + 1, h => by
    rw [show m + (j + 1) = (m + j) + 1 by omega, up_succ, h (m + j) (by omega) (by omega), up_skip l m j (fun n h1 h2 => h n h1 (by omega))]
    simp
theorem up_len (l : List R) (m : Nat) : (viewsUp l m).length ≤ m := by
  unfold viewsUp
  rw [List.length_map]
  exact Nat.le_trans (List.length_filter_le _ _) (by simp)
theorem vP_iff (l : List R) (n : Nat) : vP l n = true ↔ ∃ r ∈ l, writes r ∧ Vw.name2 (rvw r) = n := by
  unfold vP
  rw [List.any_eq_true]
  simp only [decide_eq_true_iff]
/-- the next name -/
def Best (l : List R) (m b : Nat) : Prop := (b = 5000 ∧ ∀ r ∈ l, writes r → Vw.name2 (rvw r) < m) ∨ (b < 4096 ∧ m ≤ b ∧ vP l b = true ∧ ∀ r ∈ l, writes r → m ≤ Vw.name2 (rvw r) → b ≤ Vw.name2 (rvw r))
theorem best_nil (m : Nat) : Best [] m 5000 := Or.inl ⟨rfl, by simp⟩
theorem best_le {l : List R} {m b : Nat} (h : Best l m b) : b ≤ 5000 := by rcases h with h | h <;> omega
theorem best_yes {l : List R} {m b : Nat} {r : R} (h : Best l m b) (hr : OkR r) (hw : writes r) (h1 : m ≤ Vw.name2 (rvw r)) (h2 : Vw.name2 (rvw r) < b) : Best (l ++ [r]) m (Vw.name2 (rvw r)) := by
  refine Or.inr ⟨name_lt (writes_v64 hr hw), h1, (vP_iff _ _).2 ⟨r, by simp, hw, rfl⟩, fun x hx hwx hmx => ?_⟩
  rcases List.mem_append.1 hx with hx | hx
  · rcases h with h | h
    · have := h.2 x hx hwx; omega
    · have := h.2.2.2 x hx hwx hmx; omega
  · rw [List.mem_singleton] at hx
    rw [hx]; exact Nat.le_refl _
theorem best_no {l : List R} {m b : Nat} {r : R} (h : Best l m b) (hr : OkR r) (hn : ¬ (writes r ∧ m ≤ Vw.name2 (rvw r) ∧ Vw.name2 (rvw r) < b)) : Best (l ++ [r]) m b := by
  rcases h with h | h
  · refine Or.inl ⟨h.1, fun x hx hwx => ?_⟩
    rcases List.mem_append.1 hx with hx | hx
    · exact h.2 x hx hwx
    · rw [List.mem_singleton] at hx
      subst hx
      have := name_lt (writes_v64 hr hwx)
      have h1 := h.1
      rcases Nat.lt_or_ge (Vw.name2 (rvw x)) m with h' | h'
      · exact h'
      · exact absurd ⟨hwx, h', by omega⟩ hn
  · refine Or.inr ⟨h.1, h.2.1, (vP_iff _ _).2 ?_, fun x hx hwx hmx => ?_⟩
    · obtain ⟨y, hy, hyw⟩ := (vP_iff _ _).1 h.2.2.1
      exact ⟨y, by simp [hy], hyw⟩
    · rcases List.mem_append.1 hx with hx | hx
      · exact h.2.2.2 x hx hwx hmx
      · rw [List.mem_singleton] at hx
        subst hx
        rcases Nat.lt_or_ge (Vw.name2 (rvw x)) b with h' | h'
        · exact absurd ⟨hwx, hmx, h'⟩ hn
        · exact h'
theorem best_end {l : List R} {m : Nat} (hm : m ≤ 4096) (h : Best l m 5000) : viewsUp l m = viewsL l := by
  rcases h with h | h
  · rw [views_up, show 4096 = m + (4096 - m) by omega]
    refine (up_skip l m _ (fun n h1 h2 => ?_)).symm
    rw [← Bool.not_eq_true, vP_iff]
    rintro ⟨r, hr, hw, e⟩
    have := h.2 r hr hw
    omega
  · omega
theorem best_next {l : List R} {m b : Nat} (h : Best l m b) (hb : b ≠ 5000) : (m ≤ b ∧ b < 4096) ∧ viewsUp l (b + 1) = viewsUp l m ++ [named2 b] := by
  rcases h with h | h
  · exact absurd h.1 hb
  · refine ⟨⟨h.2.1, h.1⟩, ?_⟩
    rw [up_succ, h.2.2.1]
    have : viewsUp l b = viewsUp l m := by
      rw [show b = m + (b - m) by omega]
      refine up_skip l m _ (fun n h1 h2 => ?_)
      rw [← Bool.not_eq_true, vP_iff]
      rintro ⟨r, hr, hw, e⟩
      have := h.2.2.2 r hr hw (by omega)
      omega
    rw [this]; rfl
theorem one_v (w : World) (a d : Nat) : Rg.Rs KV (w.alloc (.cells #[.int .i64 (a : Int), .int .i64 (d : Int)] 26)) (w.heap.size + 1) (some ⟨w.heap.size, 0, none⟩) [(a, d)] := one_vi_at w w.heap.size a d rfl
set_option maxHeartbeats 4000000 in
theorem views_o (A : Option Addr) (n c : Nat) (l : List R) (w : World) (h : Sr w A n c l) (hok : ∀ r ∈ l, OkR r) : Calls Tryz.prog 56 #[.slice A n c] w fun e w' => ∃ A3 n3 c3, e = .returned (.slice A3 n3 c3) ∧ Rg.OwnG KV w' w.heap.size A3 n3 c3 (viewsL l) ∧ Below w.heap.size w w' := by
  have hsf := Lgw.store_flt
  have HN := Lib.hid h.1; have HR := Lib.hid h.2.2.2.2; have HOK := Lib.hid hok
  have hl : n * 88 ≤ 140737488355328 := h.2.2.1
  clear h hok
  go_enter Tryz.func56, Tryz.ntmps56
  go_wp2
  have HO := Lib.hid (show Rg.OwnG KV (w.alloc (.cells #[] 26)) w.heap.size (some ⟨w.heap.size, 0, none⟩) 0 0 (viewsUp l 0) from Rg.own_newG KV w _ _ rfl (Nat.le_refl _))
  have HB := Lib.hid (bal (Below.refl w.heap.size w) (Nat.le_refl _) (.cells #[] 26))
  generalize w.alloc (.cells #[] 26) = w1 at HO HB ⊢
  go_loopw [3, 4] (fun x y wr => ∃ (A3 : Option Addr) (n3 c3 m : Nat), x = .slice A3 n3 c3 ∧ y = .int .i64 ((m : Int) - 1) ∧ m ≤ 4096 ∧ Rg.OwnG KV wr w.heap.size A3 n3 c3 (viewsUp l m) ∧ Below w.heap.size w wr) (fun _ y _ => 4096 - (intOf y + 1).toNat)
  case atStart => exact ⟨_, 0, 0, 0, rfl, rfl, by omega, HO.out, HB.out⟩
  case round =>
    clear HO HB
    rename World => wo
    obtain ⟨A3, n3, c3, m, rfl, rfl, hm, ho, hb⟩ := hrel
    have HO := Lib.hid ho; have HB := Lib.hid hb
    clear ho hb
    go_wp2
    go_loopw [5, 14] (fun x y wr => ∃ (bst k : Nat), x = .int .i64 (bst : Int) ∧ y = .int .i64 k ∧ k ≤ n ∧ Best (l.take k) m bst ∧ Rg.OwnG KV wr w.heap.size A3 n3 c3 (viewsUp l m) ∧ Below w.heap.size w wr) (fun _ y _ => n - (intOf y).toNat)
    case atStart => exact ⟨5000, 0, rfl, rfl, by omega, best_nil m, HO.out, HB.out⟩
    case round =>
      clear HO HB
      rename World => wl
      obtain ⟨bst, k, rfl, rfl, hk, hbs, ho, hb⟩ := hrel
      have HBS := Lib.hid hbs; have HO := Lib.hid ho; have HB := Lib.hid hb
      have hb5 := best_le hbs
      clear hbs ho hb
      by_cases h : k < n
      · obtain ⟨b, o, rfl, hbB, hcell⟩ := HR.out (by rw [← HN.out]; omega)
        have hkl : k < l.length := by rw [← HN.out]; exact h
        have hz : l[k]? = some l[k] := List.getElem?_eq_getElem hkl
        have hc0 := elv_at (fun j u hu => (HB.out.cell (p := ⟨b, o + k * KR.k + j, none⟩) hbB).trans (hcell k l[k] hz j u hu))
        have hor := HOK.out l[k] (List.getElem_mem hkl)
        have HTK : Hid (l.take (k + 1) = l.take k ++ [l[k]]) := Lib.hid (take_snocR hz)
        generalize l[k] = r at hc0 hor HTK
        have HYE := Lib.hid (fun h1 h2 h3 => best_yes HBS.out hor h1 h2 h3); have HNE := Lib.hid (fun h => best_no HBS.out hor h)
        have HOV := Lib.hid (okr_view hor).1
        have HNM := Lib.hid (fun W => Chgw.name_r (rvw r).1 (rvw r).2 (okr_view hor).2.1.1 (okr_view hor).2.1.2 W)
        have hn4 := name_lt (okr_view hor).2.1
        have hwr : writes r = (r.kind = 1 ∨ r.kind = 2 ∨ r.kind = 5) := rfl
        have HWR := Lib.hid hwr
        unfold vw at HNM
        rw [show (64 * (rvw r).1 + (rvw r).2 : Nat) = Vw.name2 (rvw r) from rfl] at HNM
        clear hz hcell hkl hor hbB hwr
        rw [show KR.k = 11 from rfl] at hc0
        obtain ⟨x0, x1, x2, x3, x4, x5, x6, x7, x8, x9, x10⟩ := hc0
        rw [HOV.out.1] at x1
        rw [HOV.out.2] at x2
        generalize Vw.name2 (rvw r) = nmr at HYE HNE HNM hn4
        generalize (rvw r).1 = va at HNM x1
        generalize (rvw r).2 = vd at HNM x2
        go_upto_region 7 with (fail)
        have RO : Obj := .cells #[] 60
        clear RO
        have hbx := bal (Below.refl wl.heap.size wl) (Nat.le_refl _) (.cells #[.int .i64 r.kind, .int .i64 (va : Int), .int .i64 (vd : Int), .int .i64 r.cn, .int .i64 r.ca, .int .i64 r.cd, .int .i64 r.e.key, .int .i64 r.e.num, .int .i64 r.e.node, .float .f64 r.e.val, .int .i64 r.n] 60)
        have HX := Lib.hid (show (wl.alloc (.cells #[.int .i64 r.kind, .int .i64 (va : Int), .int .i64 (vd : Int), .int .i64 r.cn, .int .i64 r.ca, .int .i64 r.cd, .int .i64 r.e.key, .int .i64 r.e.num, .int .i64 r.e.node, .float .f64 r.e.val, .int .i64 r.n] 60)).heap[wl.heap.size]? = some (.cells #[.int .i64 r.kind, .int .i64 (va : Int), .int .i64 (vd : Int), .int .i64 r.cn, .int .i64 r.ca, .int .i64 r.cd, .int .i64 r.e.key, .int .i64 r.e.num, .int .i64 r.e.node, .float .f64 r.e.val, .int .i64 r.n] 60) from hat _ _ _ rfl)
        have HO := Lib.hid (HO.out.below hbx (Nat.le_refl _))
        have HB := Lib.hid (HB.out.trans (hbx.mono HB.out.size)); clear hbx x0 x1 x2 x3 x4 x5 x6 x7 x8 x9 x10
        generalize wl.alloc (.cells #[.int .i64 r.kind, .int .i64 (va : Int), .int .i64 (vd : Int), .int .i64 r.cn, .int .i64 r.ca, .int .i64 r.cd, .int .i64 r.e.key, .int .i64 r.e.num, .int .i64 r.e.node, .float .f64 r.e.val, .int .i64 r.n] 60) = wm at HX HO HB ⊢
        generalize wl.heap.size = gr at HX ⊢
        have x1 : wm.cell? ⟨gr, 1, none⟩ = some (.int .i64 (va : Int)) := by rw [cell_of_row _ _ _ _ _ _ HX.out]; rfl
        have x2 : wm.cell? ⟨gr, 2, none⟩ = some (.int .i64 (vd : Int)) := by rw [cell_of_row _ _ _ _ _ _ HX.out]; rfl
        go_upto_region 8 with (refine (HNM.out _).mono ?_; rintro e w5 ⟨rfl, hb5x⟩)
        have HX := Lib.hid ((hb5x.block gr (Array.getElem?_eq_some_iff.1 HX.out).1).trans HX.out)
        have HO := Lib.hid (HO.out.below hb5x (Nat.le_refl _))
        have HB := Lib.hid (HB.out.trans (hb5x.mono HB.out.size)); clear hb5x x1 x2
        have x0 : w5.cell? ⟨gr, 0, none⟩ = some (.int .i64 r.kind) := by rw [cell_of_row _ _ _ _ _ _ HX.out]; rfl
        go_cut [43] (fun s43 wq => ∃ fb : Bool, s43 = .bool fb ∧ (fb = true ↔ ((r.kind = 1 ∨ r.kind = 2 ∨ r.kind = 5) ∧ m ≤ nmr ∧ nmr < bst)) ∧ wq = w5)
        case first =>
          clear HYE HNE HNM HO HB HX HTK HBS HOV HWR
          generalize hkd : r.kind = kd at x0 ⊢
          have HKD := Lib.hid hkd; clear hkd
          have hk : (kd = 1 ∨ kd = 2 ∨ kd = 5) ∨ (kd ≠ 1 ∧ kd ≠ 2 ∧ kd ≠ 5) := by omega
          rcases hk with (hk | hk | hk) | ⟨h1, h2, h3⟩
          · subst hk
            by_cases q1 : m ≤ nmr
            · by_cases q2 : nmr < bst
              · go_wp2; go_meet; case rel => exact ⟨true, rfl, ⟨fun _ => ⟨by have := HKD.out; omega, q1, q2⟩, fun _ => rfl⟩, rfl⟩
              · go_wp2; go_meet; case rel => exact ⟨false, rfl, ⟨(fun h => by cases h), fun h => absurd h.2.2 q2⟩, rfl⟩
            · go_wp2; go_meet; case rel => exact ⟨false, rfl, ⟨(fun h => by cases h), fun h => absurd h.2.1 q1⟩, rfl⟩
          · subst hk
            by_cases q1 : m ≤ nmr
            · by_cases q2 : nmr < bst
              · go_wp2; go_meet; case rel => exact ⟨true, rfl, ⟨fun _ => ⟨by have := HKD.out; omega, q1, q2⟩, fun _ => rfl⟩, rfl⟩
              · go_wp2; go_meet; case rel => exact ⟨false, rfl, ⟨(fun h => by cases h), fun h => absurd h.2.2 q2⟩, rfl⟩
            · go_wp2; go_meet; case rel => exact ⟨false, rfl, ⟨(fun h => by cases h), fun h => absurd h.2.1 q1⟩, rfl⟩
          · subst hk
            by_cases q1 : m ≤ nmr
            · by_cases q2 : nmr < bst
              · go_wp2; go_meet; case rel => exact ⟨true, rfl, ⟨fun _ => ⟨by have := HKD.out; omega, q1, q2⟩, fun _ => rfl⟩, rfl⟩
              · go_wp2; go_meet; case rel => exact ⟨false, rfl, ⟨(fun h => by cases h), fun h => absurd h.2.2 q2⟩, rfl⟩
            · go_wp2; go_meet; case rel => exact ⟨false, rfl, ⟨(fun h => by cases h), fun h => absurd h.2.1 q1⟩, rfl⟩
          · have e1 : (kd == 1) = false := by rw [beq_eq_false_iff_ne]; exact h1
            have e2 : (kd == 2) = false := by rw [beq_eq_false_iff_ne]; exact h2
            have e3 : (kd == 5) = false := by rw [beq_eq_false_iff_ne]; exact h3
            go_wp2; go_meet; case rel => exact ⟨false, rfl, ⟨(fun h => by cases h), fun h => by have := HKD.out; omega⟩, rfl⟩
        case rest =>
          obtain ⟨fb, rfl, hfb, rfl⟩ := hcut
          clear x0
          rw [← HWR.out] at hfb
          cases fb with
          | true =>
            have hfb := hfb.1 rfl
            have HE := Lib.hid (HYE.out hfb.1 hfb.2.1 hfb.2.2)
            clear hfb HYE HNE HNM
            go_wp2
            exact ⟨⟨nmr, k + 1, rfl, by go_num, by omega, by rw [HTK.out]; exact HE.out, HO.out, HB.out⟩, by simp [intOf]; omega⟩
          | false =>
            have HE := Lib.hid (HNE.out (fun h => by have := hfb.2 h; cases this))
            clear hfb HYE HNE HNM
            go_wp2
            exact ⟨⟨bst, k + 1, rfl, by go_num, by omega, by rw [HTK.out]; exact HE.out, HO.out, HB.out⟩, by simp [intOf]; omega⟩
      · have hkn : k = n := by omega
        have HBS := Lib.hid (show Best l m bst from by have := HBS.out; rwa [List.take_of_length_le (by have := HN.out; omega)] at this)
        have hj : ¬ ((k : Int) < (n : Int)) := by omega
        clear hkn h hk
        by_cases h5 : bst = 5000
        · subst h5
          have HE := Lib.hid (best_end hm HBS.out)
          go_wp2
          go_ret
          exact ⟨A3, n3, c3, rfl, by rw [← HE.out]; exact HO.out, HB.out⟩
        · have HE := Lib.hid (best_next HBS.out h5)
          have hb4 := HE.out.1.2
          have hbm := HE.out.1.1
          have hq : ((bst : Int) == 5000) = false := by rw [beq_eq_false_iff_ne]; omega
          have HND := Lib.hid (fun W => Chgw.named_r (bst : Int) (by omega) W)
          have HNV : Hid (Chgw.namedF (bst : Int) = some (named2 bst)) := Lib.hid (by unfold Chgw.namedF named2; rw [if_pos (by omega)]; rfl)
          rw [HNV.out] at HND
          generalize hnv : named2 bst = nv at HND HE
          clear hnv h5
          obtain ⟨nva, nvd⟩ := nv
          have hn3 : n3 ≤ m := by have := HO.out.1; have := up_len l m; omega
          go_wp2_with fail
          refine (HND.out _).mono ?_
          rintro e w6 ⟨rfl, hb6⟩
          have HO := Lib.hid (HO.out.below hb6 (Nat.le_refl _))
          have HB := Lib.hid (HB.out.trans (hb6.mono HB.out.size)); clear hb6
          unfold vw
          simp only [Chgw.gv, Option.getD_some]
          go_upto_region 15 with (fail)
          have HV := Lib.hid (show Chgw.Vi (w6.alloc (.cells #[.int .i64 (nva : Int), .int .i64 (nvd : Int)] 26)) w6.heap.size (nva : Int) (nvd : Int) from hat _ _ _ rfl)
          have HO := Lib.hid (HO.out.alloc (.cells #[.int .i64 (nva : Int), .int .i64 (nvd : Int)] 26))
          have HB := Lib.hid (bal HB.out (Nat.le_refl _) (.cells #[.int .i64 (nva : Int), .int .i64 (nvd : Int)] 26))
          generalize w6.alloc (.cells #[.int .i64 (nva : Int), .int .i64 (nvd : Int)] 26) = w7 at HV HO HB ⊢
          generalize w6.heap.size = gv at HV ⊢
          have v0 := HV.out.c0; have v1 := HV.out.c1
          have HO7 := Lib.hid (HO.out.alloc (.cells #[.int .i64 (nva : Int), .int .i64 (nvd : Int)] 26))
          have HB7 := Lib.hid (bal HB.out (Nat.le_refl _) (.cells #[.int .i64 (nva : Int), .int .i64 (nvd : Int)] 26))
          have HRW := Lib.hid (one_v w7 nva nvd)
          go_wp2_with (at_builtin; refine Rg.wp_appG (K := KV) rfl (.tmp 55) (.tmp 57) rfl w.heap.size A3 n3 c3 _ rfl HO7.out _ _ 1 1 [(nva, nvd)] rfl rfl HRW.out (by show _ * 16 ≤ _; omega) HB7.out.size ?_; intro A9 c9 w9 ho9 hb9)
          exact ⟨⟨A9, n3 + 1, c9, bst + 1, rfl, by go_num, by omega, by rw [HE.out.2]; exact ho9, HB7.out.trans hb9⟩, by simp [intOf]; omega⟩
end Go.Proofs.YtfblnomkafimhaaGreat.Fow
