/- Contracts and words on which the claims of this seat stand, part 42: FoA FoA1 FoA2 FoA3. -/
import Derived.Test.YtfblnomkafimhaaGreatG04
import Derived.Test.YtfblnomkafimhaaGreatG05
import Derived.Test.YtfblnomkafimhaaGreatG21
import Derived.Test.YtfblnomkafimhaaGreatG41
set_option linter.unusedSimpArgs false
set_option linter.unusedVariables false
namespace Go.Proofs.YtfblnomkafimhaaGreat.Fow
set_option maxRecDepth 20000
open Go.RowKit
open Chg Vw Cl Bk Lg Fo Clw Bkw
open Lgw (rvv Rx)
open Chgw (hat hbe vw ret_bool ret_i64 Vx)
open Rg (bal)

/-- of the blocks of which P is said nothing has turned -/
structure Fr (P : Nat → Prop) (w w' : World) : Prop where
  os : w'.os = w.os
  tape : w'.tape = w.tape
  output : w'.output = w.output
  size : w.heap.size ≤ w'.heap.size
  block : ∀ k, k < w.heap.size → P k → w'.heap[k]? = w.heap[k]?
section
variable {P : Nat → Prop} {w w' w'' : World}
theorem Fr.below (h : Below w.heap.size w w') : Fr P w w' := ⟨h.os, h.tape, h.output, h.size, fun k hk _ => h.block k hk⟩
theorem Fr.trans (h : Fr P w w') (h' : Fr P w' w'') : Fr P w w'' := ⟨h'.os.trans h.os, h'.tape.trans h.tape, h'.output.trans h.output, Nat.le_trans h.size h'.size, fun k hk hn => (h'.block k (Nat.lt_of_lt_of_le hk h.size) hn).trans (h.block k hk hn)⟩
theorem Fr.grown {row : Option Nat} (hg : w.grownBy w' row) (hr : ∀ k, P k → some k ≠ row) : Fr P w w' := ⟨hg.os, hg.tape, hg.output, hg.size, fun k hk hp => hg.block k hk (hr k hp)⟩
theorem Fr.put {g : Nat} (h : Fr P w w') (hn : ∀ k, P k → k ≠ g) (j : Nat) (u : Value) : Fr P w (w'.setCell ⟨g, j, none⟩ u) := ⟨h.os, h.tape, h.output, by rw [World.size_setCell]; exact h.size, fun k hk hp => (Below.heap_setCell w' ⟨g, j, none⟩ u k (hn k hp)).trans (h.block k hk hp)⟩
end
/-- neither the state's own block nor one of its rows -/
def Pk (g : Nat) (b c i : Sl) (k : Nat) : Prop := k ≠ g ∧ some k ≠ (Value.slice b.a b.n b.c).ownBlock ∧ some k ≠ (Value.slice c.a c.n c.c).ownBlock ∧ some k ≠ (Value.slice i.a i.n i.c).ownBlock
/-- add is answered -/
def RetAdd (w : World) (base g : Nat) (b0 c0 i0 : Sl) (s : St) (e : Ending) (w' : World) : Prop := e = .returned (.tuple #[]) ∧ ∃ (b c i : Sl) (xs ys : List ((Nat × Nat) × Sl)), Sx w' g s b c i ∧ Ors w' base s b c i xs ys ∧ Fr (Pk g b0 c0 i0) w w'
section
variable {W W' : World} {base g gr : Nat} {s : St} {b c i : Sl} {xs ys : List ((Nat × Nat) × Sl)} {r : R}
theorem own_base {α : Type} {K : Kind α} {w : World} {base : Nat} {A : Option Addr} {n c : Nat} {l : List α} (h : Rg.OwnG K w base A n c l) : ∀ k, (Value.slice A n c).ownBlock = some k → base ≤ k := fun k hk => (h.2.lt k hk).1
theorem Ors.putB (h : Ors W base s b c i xs ys) (hx : Sx W g s b c i) {s' : Sl} {v : Nat × Nat} {sl : Sl} {bk : List E} (ho : Rg.OwnG KB W' base s'.a s'.n s'.c (putP xs (v, sl))) (hg : W.grownBy W' (Value.slice b.a b.n b.c).ownBlock) (hi : OwnE W base sl.a sl.n sl.c bk) :
    Sx (W'.setCell ⟨g, 0, none⟩ (.slice s'.a s'.n s'.c)) g { s with books := putP s.books (v, bk) } s' c i ∧ Ors (W'.setCell ⟨g, 0, none⟩ (.slice s'.a s'.n s'.c)) base { s with books := putP s.books (v, bk) } s' c i (putP xs (v, sl)) ys := by
  obtain ⟨⟨ob, ib⟩, ⟨oc, ic⟩, oi⟩ := h
  have hxg : Sx W' g s b c i := Rg.blk_apart hx ob.2 (by decide) hg
  have hE : ∀ (A : Option Addr) n c es, OwnE W base A n c es → OwnE (W'.setCell ⟨g, 0, none⟩ (.slice s'.a s'.n s'.c)) base A n c es := fun _ _ _ _ h1 => ⟨h1.1, row_store hxg (Rg.rows_apart h1.2 ob.2 (by decide) hg) (by decide) _⟩
  have hC : ∀ (A : Option Addr) n c es, Rg.OwnG KC W base A n c es → Rg.OwnG KC (W'.setCell ⟨g, 0, none⟩ (.slice s'.a s'.n s'.c)) base A n c es := fun _ _ _ _ h1 => ⟨h1.1, row_store hxg (Rg.rows_apart h1.2 ob.2 (by decide) hg) (by decide) _⟩
  have hp := putP_get (Q := fun (x : (Nat × Nat) × Sl) (y : (Nat × Nat) × List E) => OwnE W base x.2.a x.2.n x.2.c y.2) (x := (v, sl)) (y := (v, bk)) rfl hi xs s.books ib.1 ib.2
  exact ⟨hxg.put1 0 (.slice s'.a s'.n s'.c) _ _ _ _ rfl, ⟨⟨ho.1, row_store hxg ho.2 (by decide) _⟩, Bko.map (w := W) ⟨hp.1, hp.2⟩ hE⟩, ⟨⟨oc.1, row_store hxg (Rg.rows_apart oc.2 ob.2 (by decide) hg) (by decide) _⟩, ic.map hC⟩, ⟨oi.1, row_store hxg (Rg.rows_apart oi.2 ob.2 (by decide) hg) (by decide) _⟩⟩
theorem Ors.putC (h : Ors W base s b c i xs ys) (hx : Sx W g s b c i) {s' : Sl} {v : Nat × Nat} {sl : Sl} {bk : List C} (ho : Rg.OwnG KCs W' base s'.a s'.n s'.c (putP ys (v, sl))) (hg : W.grownBy W' (Value.slice c.a c.n c.c).ownBlock) (hi : Rg.OwnG KC W base sl.a sl.n sl.c bk) :
    Sx (W'.setCell ⟨g, 1, none⟩ (.slice s'.a s'.n s'.c)) g { s with cells := putP s.cells (v, bk) } b s' i ∧ Ors (W'.setCell ⟨g, 1, none⟩ (.slice s'.a s'.n s'.c)) base { s with cells := putP s.cells (v, bk) } b s' i xs (putP ys (v, sl)) := by
  obtain ⟨⟨ob, ib⟩, ⟨oc, ic⟩, oi⟩ := h
  have hxg : Sx W' g s b c i := Rg.blk_apart hx oc.2 (by decide) hg
  have hE : ∀ (A : Option Addr) n c es, OwnE W base A n c es → OwnE (W'.setCell ⟨g, 1, none⟩ (.slice s'.a s'.n s'.c)) base A n c es := fun _ _ _ _ h1 => ⟨h1.1, row_store hxg (Rg.rows_apart h1.2 oc.2 (by decide) hg) (by decide) _⟩
  have hC : ∀ (A : Option Addr) n c es, Rg.OwnG KC W base A n c es → Rg.OwnG KC (W'.setCell ⟨g, 1, none⟩ (.slice s'.a s'.n s'.c)) base A n c es := fun _ _ _ _ h1 => ⟨h1.1, row_store hxg (Rg.rows_apart h1.2 oc.2 (by decide) hg) (by decide) _⟩
  have hp := putP_get (Q := fun (x : (Nat × Nat) × Sl) (y : (Nat × Nat) × List C) => Rg.OwnG KC W base x.2.a x.2.n x.2.c y.2) (x := (v, sl)) (y := (v, bk)) rfl hi ys s.cells ic.1 ic.2
  exact ⟨hxg.put1 1 (.slice s'.a s'.n s'.c) _ _ _ _ rfl, ⟨⟨ob.1, row_store hxg (Rg.rows_apart ob.2 oc.2 (by decide) hg) (by decide) _⟩, ib.map hE⟩, ⟨⟨ho.1, row_store hxg ho.2 (by decide) _⟩, Cko.map (w := W) ⟨hp.1, hp.2⟩ hC⟩, ⟨oi.1, row_store hxg (Rg.rows_apart oi.2 oc.2 (by decide) hg) (by decide) _⟩⟩
theorem Ors.putI (h : Ors W base s b c i xs ys) (hx : Sx W g s b c i) {s' : Sl} {v x : Nat × Nat} (ho : Rg.OwnG KI W' base s'.a s'.n s'.c (putP s.ints (v, x))) (hg : W.grownBy W' (Value.slice i.a i.n i.c).ownBlock) :
    Sx (W'.setCell ⟨g, 2, none⟩ (.slice s'.a s'.n s'.c)) g { s with ints := putP s.ints (v, x) } b c s' ∧ Ors (W'.setCell ⟨g, 2, none⟩ (.slice s'.a s'.n s'.c)) base { s with ints := putP s.ints (v, x) } b c s' xs ys := by
  obtain ⟨⟨ob, ib⟩, ⟨oc, ic⟩, oi⟩ := h
  have hxg : Sx W' g s b c i := Rg.blk_apart hx oi.2 (by decide) hg
  have hE : ∀ (A : Option Addr) n c es, OwnE W base A n c es → OwnE (W'.setCell ⟨g, 2, none⟩ (.slice s'.a s'.n s'.c)) base A n c es := fun _ _ _ _ h1 => ⟨h1.1, row_store hxg (Rg.rows_apart h1.2 oi.2 (by decide) hg) (by decide) _⟩
  have hC : ∀ (A : Option Addr) n c es, Rg.OwnG KC W base A n c es → Rg.OwnG KC (W'.setCell ⟨g, 2, none⟩ (.slice s'.a s'.n s'.c)) base A n c es := fun _ _ _ _ h1 => ⟨h1.1, row_store hxg (Rg.rows_apart h1.2 oi.2 (by decide) hg) (by decide) _⟩
  exact ⟨hxg.put1 2 (.slice s'.a s'.n s'.c) _ _ _ _ rfl, ⟨⟨ob.1, row_store hxg (Rg.rows_apart ob.2 oi.2 (by decide) hg) (by decide) _⟩, ib.map hE⟩, ⟨⟨oc.1, row_store hxg (Rg.rows_apart oc.2 oi.2 (by decide) hg) (by decide) _⟩, ic.map hC⟩, ⟨ho.1, row_store hxg ho.2 (by decide) _⟩⟩
end
/-- what add makes, by the kinds -/
theorem apply1 {s : St} (h : WfS s) {r : R} (hk : r.kind = 1) : applyS s r = { s with books := putP s.books (rvw r, merge (bookS s (rvw r)) [r.e]) } := by
  unfold applyS
  rw [if_pos hk, putK_eq _ h.sb h.ab]
  rfl
theorem apply2 {s : St} (h : WfS s) {r : R} (hk : r.kind = 2) : applyS s r = { s with cells := putP s.cells (rvw r, mergeC (cellsS s (rvw r)) [rcell r]) } := by
  unfold applyS
  rw [if_neg (by omega), if_pos hk, putK_eq _ h.sc h.ac]
  rfl
theorem apply5 {s : St} (h : WfS s) {r : R} (hk : r.kind = 5) : applyS s r = { s with ints := putP s.ints (rvw r, (intS s (rvw r)).getD (rch r)) } := by
  unfold applyS
  rw [if_neg (by omega), if_neg (by omega), if_neg (by omega), if_neg (by omega), if_pos hk, putK_eq _ h.si h.ai]
  rfl
theorem putP_same {α : Type} {l : List ((Nat × Nat) × α)} (hs : Sd l) (ha : A64 l) {v : Nat × Nat} {a : α} (h : lk l v = some a) : putP l (v, a) = l := by
  obtain ⟨p, hp⟩ := List.getElem?_of_mem (lk_some h)
  rw [putP_hit p hs hp]
  apply List.ext_getElem?
  intro j
  rw [List.getElem?_set]
  by_cases e : p = j
  · subst e
    obtain ⟨hl, he⟩ := List.getElem?_eq_some_iff.1 hp
    simp [hl, he]
  · simp [e]
theorem right_r {r : R} (h : OkR r) (W : World) : Calls Tryz.prog 90 #[.agg #[.int .i64 ((rvw r).1 : Int), .int .i64 ((rvw r).2 : Int)]] W fun e w' => e = .returned (.bool true) ∧ Below W.heap.size W w' := by
  have hv := (okr_view h).2.1
  refine (Chgw.right_c ((rvw r).1 : Int) ((rvw r).2 : Int) W).mono ?_
  rintro e w' ⟨rfl, hb⟩
  refine ⟨?_, hb⟩
  have h1 := hv.1; have h2 := hv.2
  rw [show Chgw.rightB ((rvw r).1 : Int) ((rvw r).2 : Int) = true from by unfold Chgw.rightB; simp; omega]
end Go.Proofs.YtfblnomkafimhaaGreat.Fow

namespace Go.Proofs.YtfblnomkafimhaaGreat.Fow
set_option maxRecDepth 20000
open Go.RowKit
open Chg Vw Cl Bk Lg Fo Clw Bkw
open Lgw (rvv Rx)
open Chgw (hat hbe vw ret_bool ret_i64 Vx)
open Rg (bal)
set_option maxHeartbeats 8000000 in
theorem add1_c (g : Nat) (s : St) (b c i : Sl) (xs ys : List ((Nat × Nat) × Sl)) (base : Nat) (w : World) (hx : Sx w g s b c i) (ho : Ors w base s b c i xs ys) (hw : WfS s) (r : R) (hr : OkR r) (hk : r.kind = 1) (hb : base ≤ w.heap.size) :
    Calls Tryz.prog 54 #[.pointer (some ⟨g, 0, none⟩), rvv r] w (RetAdd w base g b c i (applyS s r)) := by
  have hsf := Lgw.store_flt
  have k1 : (r.kind == 1) = true := by rw [beq_iff_eq]; omega
  have k2 : (r.kind == 2) = false := by rw [beq_eq_false_iff_ne]; omega
  have k3 : (r.kind == 3) = false := by rw [beq_eq_false_iff_ne]; omega
  have k4 : (r.kind == 4) = false := by rw [beq_eq_false_iff_ne]; omega
  have k5 : (r.kind == 5) = false := by rw [beq_eq_false_iff_ne]; omega
  have k6 : (r.kind == 6) = false := by rw [beq_eq_false_iff_ne]; omega
  have HW := Lib.hid hw; have HRR := Lib.hid (fun W => right_r hr W)
  have HOV := Lib.hid (okr_view hr).1; have HV64 := Lib.hid (okr_view hr).2.1; have HCV := Lib.hid (okr_view hr).2.2.1; have HOK := Lib.hid hr; have HKI := Lib.hid hk
  
  unfold rvv
  clear hw hr hk
  go_enter Tryz.func54, Tryz.ntmps54
  go_upto_region 1 with (fail)
  have HR := Lib.hid (show Rx (w.alloc (.cells #[.int .i64 r.kind, .int .i64 r.va, .int .i64 r.vd, .int .i64 r.cn, .int .i64 r.ca, .int .i64 r.cd, .int .i64 r.e.key, .int .i64 r.e.num, .int .i64 r.e.node, .float .f64 r.e.val, .int .i64 r.n] 60)) w.heap.size r from hat _ _ _ rfl)
  have hbx := bal (Below.refl w.heap.size w) (Nat.le_refl _) (.cells #[.int .i64 r.kind, .int .i64 r.va, .int .i64 r.vd, .int .i64 r.cn, .int .i64 r.ca, .int .i64 r.cd, .int .i64 r.e.key, .int .i64 r.e.num, .int .i64 r.e.node, .float .f64 r.e.val, .int .i64 r.n] 60)
  have HX := Lib.hid (hx.all hbx); have HO := Lib.hid (ho.below hbx); have HF := Lib.hid (Fr.below (P := Pk g b c i) hbx)
  have HBS := Lib.hid (Nat.le_trans hb hbx.size)
  have HGR := Lib.hid hx.lt
  clear hx ho hbx hb
  have hgne : w.heap.size ≠ g := Nat.ne_of_gt HGR.out
  clear HGR
  generalize w.alloc (.cells #[.int .i64 r.kind, .int .i64 r.va, .int .i64 r.vd, .int .i64 r.cn, .int .i64 r.ca, .int .i64 r.cd, .int .i64 r.e.key, .int .i64 r.e.num, .int .i64 r.e.node, .float .f64 r.e.val, .int .i64 r.n] 60) = w1 at HR HX HO HF HBS ⊢
  generalize w.heap.size = gr at HR hgne ⊢
  obtain ⟨y0, y1, y2, y3, y4, y5, y6, y7, y8, y9, y10⟩ := HR.out.cs
  rw [HOV.out.1] at y1
  rw [HOV.out.2] at y2
  go_upto_region 2 with (refine (HRR.out w1).mono ?_; rintro e w2 ⟨rfl, hb2⟩)
  have HR := Lib.hid (HR.out.all hb2); have HX := Lib.hid (HX.out.all hb2); have HO := Lib.hid (HO.out.below hb2); have HF := Lib.hid (HF.out.trans (Fr.below hb2)); have HBS := Lib.hid (Nat.le_trans HBS.out hb2.size)
  clear hb2 HRR y0 y1 y2 y3 y4 y5 y6 y7 y8 y9 y10
  have y0 : w2.cell? ⟨gr, 0, none⟩ = some (.int .i64 r.kind) := HR.out.cs.1
  go_upto_region 4 with (fail)
  clear y0
  have HQR : Hid (∀ W, Rx W gr r → (W.cell? ⟨gr, 1, none⟩ = some (.int .i64 ((rvw r).1 : Int)) ∧ W.cell? ⟨gr, 2, none⟩ = some (.int .i64 ((rvw r).2 : Int))) ∧ (W.cell? ⟨gr, 3, none⟩ = some (.int .i64 r.cn) ∧ W.cell? ⟨gr, 4, none⟩ = some (.int .i64 r.ca) ∧ W.cell? ⟨gr, 5, none⟩ = some (.int .i64 r.cd)) ∧ (W.cell? ⟨gr, 6, none⟩ = some (.int .i64 r.e.key) ∧ W.cell? ⟨gr, 7, none⟩ = some (.int .i64 r.e.num) ∧ W.cell? ⟨gr, 8, none⟩ = some (.int .i64 r.e.node) ∧ W.cell? ⟨gr, 9, none⟩ = some (.float .f64 r.e.val)) ∧ W.cell? ⟨gr, 10, none⟩ = some (.int .i64 r.n)) := Lib.hid (fun W h => by
    obtain ⟨y0, y1, y2, y3, y4, y5, y6, y7, y8, y9, y10⟩ := h.cs
    rw [HOV.out.1] at y1
    rw [HOV.out.2] at y2
    exact ⟨⟨y1, y2⟩, ⟨y3, y4, y5⟩, ⟨y6, y7, y8, y9⟩, y10⟩)
  have HQX : Hid (∀ W, Sx W g s b c i → (W.cell? ⟨g, 0, none⟩ = some (.slice b.a b.n b.c) ∧ W.cell? ⟨g, 1, none⟩ = some (.slice c.a c.n c.c) ∧ W.cell? ⟨g, 2, none⟩ = some (.slice i.a i.n i.c) ∧ W.cell? ⟨g, 3, none⟩ = some (.int .i64 (s.held.1 : Int)) ∧ W.cell? ⟨g, 4, none⟩ = some (.int .i64 (s.held.2 : Int)) ∧ W.cell? ⟨g, 5, none⟩ = some (.int .i64 s.inc) ∧ W.cell? ⟨g, 6, none⟩ = some (.int .i64 s.last)) ∧ (∀ j, W.frozen? ⟨g, j, none⟩ = false)) := Lib.hid (fun W h => ⟨h.cs, h.frozen⟩)
  go_cut [4] (fun s4 wq => ∃ (A : Option Addr) (n c2 : Nat), s4 = .slice A n c2 ∧ OwnE wq base A n c2 (merge (bookS s (rvw r)) [r.e]) ∧ Below w2.heap.size w2 wq)
  case first =>
    have HLB : Hid ((bookS s (rvw r)).length * 24 ≤ 140737488355328) := Lib.hid (by have := book_lenF (bookS_book HW.out (rvw r)).1; omega)
    refine wp_region_held_drew (S := fun W' => Sx W' g s b c i ∧ Rx W' gr r) (by kernel_rfl) ⟨HX.out, HR.out⟩ (fun hHeld => ?_)
    have HC : Hid (Below w2.heap.size w2 w2.drew) := Lib.hid (Below.refl _ _).drew
    have HS : Hid (Sx w2.drew g s b c i ∧ Rx w2.drew gr r) := Lib.hid hHeld
    clear hHeld
    generalize w2.drew = w5 at HC HS ⊢
    refine take_in (i := 0) (oi := ⟨_, _, _, _, _, _⟩) (v := ?_) rfl (by kernel_rfl) (by kernel_rfl) (by kernel_rfl) (fun _ _ _ h => h) (by rfl) ?_ HS.out ?_
    rotate_left
    · intro W hW; obtain ⟨⟨y1, y2⟩, ⟨y3, y4, y5⟩, ⟨y6, y7, y8, y9⟩, y10⟩ := HQR.out W hW.2; obtain ⟨⟨z0, z1, z2, z3, z4, z5, z6⟩, hfz⟩ := HQX.out W hW.1; go_simp; with_reducible rfl
    simp only [Act.put, List.setIfInBounds_toArray, List.set_cons_zero, List.set_cons_succ]
    refine take_in (i := 1) (oi := ⟨_, _, _, _, _, _⟩) (v := ?_) rfl (by kernel_rfl) (by kernel_rfl) (by kernel_rfl) (fun _ _ _ h => h) (by rfl) ?_ HS.out ?_
    rotate_left
    · intro W hW; obtain ⟨⟨y1, y2⟩, ⟨y3, y4, y5⟩, ⟨y6, y7, y8, y9⟩, y10⟩ := HQR.out W hW.2; obtain ⟨⟨z0, z1, z2, z3, z4, z5, z6⟩, hfz⟩ := HQX.out W hW.1; go_simp; with_reducible rfl
    simp only [Act.put, List.setIfInBounds_toArray, List.set_cons_zero, List.set_cons_succ]
    refine take_in (i := 2) (oi := ⟨_, _, _, _, _, _⟩) (v := ?_) rfl (by kernel_rfl) (by kernel_rfl) (by kernel_rfl) (fun _ _ _ h => h) (by rfl) ?_ HS.out ?_
    rotate_left
    · intro W hW; obtain ⟨⟨y1, y2⟩, ⟨y3, y4, y5⟩, ⟨y6, y7, y8, y9⟩, y10⟩ := HQR.out W hW.2; obtain ⟨⟨z0, z1, z2, z3, z4, z5, z6⟩, hfz⟩ := HQX.out W hW.1; go_simp; with_reducible rfl
    simp only [Act.put, List.setIfInBounds_toArray, List.set_cons_zero, List.set_cons_succ]
    refine take_in (i := 3) (oi := ⟨_, _, _, _, _, _⟩) (v := ?_) rfl (by kernel_rfl) (by kernel_rfl) (by kernel_rfl) (fun _ _ _ h => h) (by rfl) ?_ HS.out ?_
    rotate_left
    · intro W hW; obtain ⟨⟨y1, y2⟩, ⟨y3, y4, y5⟩, ⟨y6, y7, y8, y9⟩, y10⟩ := HQR.out W hW.2; obtain ⟨⟨z0, z1, z2, z3, z4, z5, z6⟩, hfz⟩ := HQX.out W hW.1; go_simp; with_reducible rfl
    simp only [Act.put, List.setIfInBounds_toArray, List.set_cons_zero, List.set_cons_succ]
    refine take_in (i := 4) (oi := ⟨_, _, _, _, _, _⟩) (v := ?_) rfl (by kernel_rfl) (by kernel_rfl) (by kernel_rfl) (fun _ _ _ h => h) (by rfl) ?_ HS.out ?_
    rotate_left
    · intro W hW; obtain ⟨⟨y1, y2⟩, ⟨y3, y4, y5⟩, ⟨y6, y7, y8, y9⟩, y10⟩ := HQR.out W hW.2; obtain ⟨⟨z0, z1, z2, z3, z4, z5, z6⟩, hfz⟩ := HQX.out W hW.1; go_simp; with_reducible rfl
    simp only [Act.put, List.setIfInBounds_toArray, List.set_cons_zero, List.set_cons_succ]
    refine take_in (i := 6) (oi := ⟨_, _, _, _, _, _⟩) (v := ?_) rfl (by kernel_rfl) (by kernel_rfl) (by kernel_rfl) (fun _ _ _ h => h) (by rfl) ?_ HS.out ?_
    rotate_left
    · intro W hW; obtain ⟨⟨y1, y2⟩, ⟨y3, y4, y5⟩, ⟨y6, y7, y8, y9⟩, y10⟩ := HQR.out W hW.2; obtain ⟨⟨z0, z1, z2, z3, z4, z5, z6⟩, hfz⟩ := HQX.out W hW.1; go_simp; with_reducible rfl
    simp only [Act.put, List.setIfInBounds_toArray, List.set_cons_zero, List.set_cons_succ]
    refine take_in (i := 7) (oi := ⟨_, _, _, _, _, _⟩) (v := ?_) rfl (by kernel_rfl) (by kernel_rfl) (by kernel_rfl) (fun _ _ _ h => h) (by rfl) ?_ HS.out ?_
    rotate_left
    · intro W hW; obtain ⟨⟨y1, y2⟩, ⟨y3, y4, y5⟩, ⟨y6, y7, y8, y9⟩, y10⟩ := HQR.out W hW.2; obtain ⟨⟨z0, z1, z2, z3, z4, z5, z6⟩, hfz⟩ := HQX.out W hW.1; go_simp; with_reducible rfl
    simp only [Act.put, List.setIfInBounds_toArray, List.set_cons_zero, List.set_cons_succ]
    refine wpAnyH_ready (rs := [5, 8]) (by kernel_rfl) (by simp) ?_
    refine AllReadyH.cons (o := ⟨_, _, _, _, _, _⟩) rfl (fun K hK => ?_) (AllReadyH.cons (o := ⟨_, _, _, _, _, _⟩) rfl (fun K hK => ?_) AllReadyH.nil)
    · go_simp
      refine (book_c s b c i w5 ((HO.out.below HC.out).stoW HW.out) HW.out (rvw r) HV64.out).mono ?_
      rintro e x1 ⟨bA, bn, bc, rfl, ho_, hb_⟩
      have HOB := Lib.hid (ho_.base (Nat.le_trans HBS.out HC.out.size)); clear ho_
      have HS := Lib.hid (show Sx x1 g s b c i ∧ Rx x1 gr r from ⟨HS.out.1.all hb_, HS.out.2.all hb_⟩)
      have HC := Lib.hid (HC.out.trans (hb_.mono HC.out.size)); clear hb_
      refine hK.out _ _ HS.out (fun _ => ?_)
      clear hK K
      refine wpAnyH_ready (rs := [8]) (by kernel_rfl) (by simp) ?_
      refine AllReadyH.cons (o := ⟨_, _, _, _, _, _⟩) rfl (fun K hK => ?_) AllReadyH.nil
      go_simp
      have hb_ := bal (Below.refl x1.heap.size x1) (Nat.le_refl _) (.cells #[.int .i64 r.e.key, .int .i64 r.e.num, .int .i64 r.e.node, .float .f64 r.e.val] 58)
      have HON := Lib.hid (so_one x1 r.e HOK.out.2)
      have HOB := Lib.hid (HOB.out.below hb_ (Nat.le_refl _))
      have HS := Lib.hid (show Sx (x1.alloc (.cells #[.int .i64 r.e.key, .int .i64 r.e.num, .int .i64 r.e.node, .float .f64 r.e.val] 58)) g s b c i ∧ Rx (x1.alloc (.cells #[.int .i64 r.e.key, .int .i64 r.e.num, .int .i64 r.e.node, .float .f64 r.e.val] 58)) gr r from ⟨HS.out.1.all hb_, HS.out.2.all hb_⟩)
      have HC := Lib.hid (HC.out.trans (hb_.mono HC.out.size)); clear hb_
      refine hK.out _ _ HS.out (fun _ => ?_)
      clear hK K
      generalize (x1.alloc (.cells #[.int .i64 r.e.key, .int .i64 r.e.num, .int .i64 r.e.node, .float .f64 r.e.val] 58)) = x2 at HS HC HON HOB ⊢
      generalize x1.heap.size = gn at HON ⊢
      refine wpAnyH_ready (rs := [9]) (by kernel_rfl) (by simp) ?_
      refine AllReadyH.cons (o := ⟨_, _, _, _, _, _⟩) rfl (fun K hK => ?_) AllReadyH.nil
      go_simp
      refine (merge_own bA bn bc _ HOB.out.1 (by have := HLB.out; have := HOB.out.1; omega) _ 1 1 [r.e] rfl (by omega) x2.heap.size x2 (OwnE.re (ownE_G HOB.out)) HON.out.2.2.2.2 (Nat.le_refl _)).mono ?_
      rintro e x3 ⟨mA, mn, mc, rfl, ho_, hb_⟩
      have HM := Lib.hid (ho_.base (Nat.le_trans HBS.out HC.out.size)); clear ho_
      have HS := Lib.hid (show Sx x3 g s b c i ∧ Rx x3 gr r from ⟨HS.out.1.all hb_, HS.out.2.all hb_⟩)
      have HC := Lib.hid (HC.out.trans (hb_.mono HC.out.size)); clear hb_
      refine hK.out _ _ HS.out (fun _ => ?_)
      clear hK K
      refine take_in (i := 10) (oi := ⟨_, _, _, _, _, _⟩) (v := ?_) rfl (by kernel_rfl) (by kernel_rfl) (by kernel_rfl) (fun _ _ _ h => h) (by rfl) ?_ HS.out ?_
      rotate_left
      · intro W hW; go_simp; with_reducible rfl
      simp only [Act.put, List.setIfInBounds_toArray, List.set_cons_zero, List.set_cons_succ]
      refine wpAnyH_done (by kernel_rfl) ?_ _
      go_wp2
      go_meet
      case rel => exact ⟨mA, mn, mc, rfl, HM.out, HC.out⟩
    · go_simp
      have hb_ := bal (Below.refl w5.heap.size w5) (Nat.le_refl _) (.cells #[.int .i64 r.e.key, .int .i64 r.e.num, .int .i64 r.e.node, .float .f64 r.e.val] 58)
      have HON := Lib.hid (so_one w5 r.e HOK.out.2)
      have HS := Lib.hid (show Sx (w5.alloc (.cells #[.int .i64 r.e.key, .int .i64 r.e.num, .int .i64 r.e.node, .float .f64 r.e.val] 58)) g s b c i ∧ Rx (w5.alloc (.cells #[.int .i64 r.e.key, .int .i64 r.e.num, .int .i64 r.e.node, .float .f64 r.e.val] 58)) gr r from ⟨HS.out.1.all hb_, HS.out.2.all hb_⟩)
      have HC := Lib.hid (HC.out.trans (hb_.mono HC.out.size)); clear hb_
      refine hK.out _ _ HS.out (fun _ => ?_)
      clear hK K
      generalize (w5.alloc (.cells #[.int .i64 r.e.key, .int .i64 r.e.num, .int .i64 r.e.node, .float .f64 r.e.val] 58)) = x1 at HS HC HON ⊢
      generalize w5.heap.size = gn at HON ⊢
      refine wpAnyH_ready (rs := [5]) (by kernel_rfl) (by simp) ?_
      refine AllReadyH.cons (o := ⟨_, _, _, _, _, _⟩) rfl (fun K hK => ?_) AllReadyH.nil
      go_simp
      refine (book_c s b c i x1 ((HO.out.below HC.out).stoW HW.out) HW.out (rvw r) HV64.out).mono ?_
      rintro e x2 ⟨bA, bn, bc, rfl, ho_, hb_⟩
      have HOB := Lib.hid (ho_.base (Nat.le_trans HBS.out HC.out.size)); clear ho_
      have HON := Lib.hid (HON.out.all hb_)
      have HS := Lib.hid (show Sx x2 g s b c i ∧ Rx x2 gr r from ⟨HS.out.1.all hb_, HS.out.2.all hb_⟩)
      have HC := Lib.hid (HC.out.trans (hb_.mono HC.out.size)); clear hb_
      refine hK.out _ _ HS.out (fun _ => ?_)
      clear hK K
      refine wpAnyH_ready (rs := [9]) (by kernel_rfl) (by simp) ?_
      refine AllReadyH.cons (o := ⟨_, _, _, _, _, _⟩) rfl (fun K hK => ?_) AllReadyH.nil
      go_simp
      refine (merge_own bA bn bc _ HOB.out.1 (by have := HLB.out; have := HOB.out.1; omega) _ 1 1 [r.e] rfl (by omega) x2.heap.size x2 (OwnE.re (ownE_G HOB.out)) HON.out.2.2.2.2 (Nat.le_refl _)).mono ?_
      rintro e x3 ⟨mA, mn, mc, rfl, ho_, hb_⟩
      have HM := Lib.hid (ho_.base (Nat.le_trans HBS.out HC.out.size)); clear ho_
      have HS := Lib.hid (show Sx x3 g s b c i ∧ Rx x3 gr r from ⟨HS.out.1.all hb_, HS.out.2.all hb_⟩)
      have HC := Lib.hid (HC.out.trans (hb_.mono HC.out.size)); clear hb_
      refine hK.out _ _ HS.out (fun _ => ?_)
      clear hK K
      refine take_in (i := 10) (oi := ⟨_, _, _, _, _, _⟩) (v := ?_) rfl (by kernel_rfl) (by kernel_rfl) (by kernel_rfl) (fun _ _ _ h => h) (by rfl) ?_ HS.out ?_
      rotate_left
      · intro W hW; go_simp; with_reducible rfl
      simp only [Act.put, List.setIfInBounds_toArray, List.set_cons_zero, List.set_cons_succ]
      refine wpAnyH_done (by kernel_rfl) ?_ _
      go_wp2
      go_meet
      case rel => exact ⟨mA, mn, mc, rfl, HM.out, HC.out⟩
  case rest =>
    obtain ⟨mA, mn, mc, rfl, hm, hbc⟩ := hcut
    have HM := Lib.hid hm; have HX := Lib.hid (HX.out.all hbc); have HR := Lib.hid (HR.out.all hbc); have HO := Lib.hid (HO.out.below hbc); have HF := Lib.hid (HF.out.trans (Fr.below hbc)); have HBS := Lib.hid (Nat.le_trans HBS.out hbc.size)
    clear hm hbc
    go_upto_region 5 with (fail)
    refine wp_region_held_drew (S := fun W' => Rx W' gr r) (by kernel_rfl) HR.out (fun hHeld => ?_)
    have HC : Hid (Below wc.heap.size wc wc.drew) := Lib.hid (Below.refl _ _).drew
    have HS : Hid (Rx wc.drew gr r) := Lib.hid hHeld
    have HX : Hid (Sx wc.drew g s b c i) := Lib.hid HX.out
    clear hHeld
    generalize wc.drew = w5 at HC HS HX ⊢
    refine take_in (i := 0) (oi := ⟨_, _, _, _, _, _⟩) (v := ?_) rfl (by kernel_rfl) (by kernel_rfl) (by kernel_rfl) (fun _ _ _ h => h) (by rfl) ?_ HS.out ?_
    rotate_left
    · intro W hW; obtain ⟨⟨y1, y2⟩, ⟨y3, y4, y5⟩, ⟨y6, y7, y8, y9⟩, y10⟩ := HQR.out W hW; go_simp; with_reducible rfl
    simp only [Act.put, List.setIfInBounds_toArray, List.set_cons_zero, List.set_cons_succ]
    refine take_in (i := 1) (oi := ⟨_, _, _, _, _, _⟩) (v := ?_) rfl (by kernel_rfl) (by kernel_rfl) (by kernel_rfl) (fun _ _ _ h => h) (by rfl) ?_ HS.out ?_
    rotate_left
    · intro W hW; obtain ⟨⟨y1, y2⟩, ⟨y3, y4, y5⟩, ⟨y6, y7, y8, y9⟩, y10⟩ := HQR.out W hW; go_simp; with_reducible rfl
    simp only [Act.put, List.setIfInBounds_toArray, List.set_cons_zero, List.set_cons_succ]
    refine take_in (i := 2) (oi := ⟨_, _, _, _, _, _⟩) (v := ?_) rfl (by kernel_rfl) (by kernel_rfl) (by kernel_rfl) (fun _ _ _ h => h) (by rfl) ?_ HS.out ?_
    rotate_left
    · intro W hW; obtain ⟨⟨y1, y2⟩, ⟨y3, y4, y5⟩, ⟨y6, y7, y8, y9⟩, y10⟩ := HQR.out W hW; go_simp; with_reducible rfl
    simp only [Act.put, List.setIfInBounds_toArray, List.set_cons_zero, List.set_cons_succ]
    refine take_in (i := 5) (oi := ⟨_, _, _, _, _, _⟩) (v := ?_) rfl (by kernel_rfl) (by kernel_rfl) (by kernel_rfl) (fun _ _ _ h => h) (by rfl) ?_ HS.out ?_
    rotate_left
    · intro W hW; obtain ⟨⟨y1, y2⟩, ⟨y3, y4, y5⟩, ⟨y6, y7, y8, y9⟩, y10⟩ := HQR.out W hW; go_simp; with_reducible rfl
    simp only [Act.put, List.setIfInBounds_toArray, List.set_cons_zero, List.set_cons_succ]
    refine take_in (i := 6) (oi := ⟨_, _, _, _, _, _⟩) (v := ?_) rfl (by kernel_rfl) (by kernel_rfl) (by kernel_rfl) (fun _ _ _ h => h) (by rfl) ?_ HS.out ?_
    rotate_left
    · intro W hW; obtain ⟨⟨y1, y2⟩, ⟨y3, y4, y5⟩, ⟨y6, y7, y8, y9⟩, y10⟩ := HQR.out W hW; go_simp; with_reducible rfl
    simp only [Act.put, List.setIfInBounds_toArray, List.set_cons_zero, List.set_cons_succ]
    refine take_in (i := 7) (oi := ⟨_, _, _, _, _, _⟩) (v := ?_) rfl (by kernel_rfl) (by kernel_rfl) (by kernel_rfl) (fun _ _ _ h => h) (by rfl) ?_ HS.out ?_
    rotate_left
    · intro W hW; obtain ⟨⟨y1, y2⟩, ⟨y3, y4, y5⟩, ⟨y6, y7, y8, y9⟩, y10⟩ := HQR.out W hW; go_simp; with_reducible rfl
    simp only [Act.put, List.setIfInBounds_toArray, List.set_cons_zero, List.set_cons_succ]
    refine take_in (i := 8) (oi := ⟨_, _, _, _, _, _⟩) (v := ?_) rfl (by kernel_rfl) (by kernel_rfl) (by kernel_rfl) (fun _ _ _ h => h) (by rfl) ?_ HS.out ?_
    rotate_left
    · intro W hW; obtain ⟨⟨y1, y2⟩, ⟨y3, y4, y5⟩, ⟨y6, y7, y8, y9⟩, y10⟩ := HQR.out W hW; go_simp; with_reducible rfl
    simp only [Act.put, List.setIfInBounds_toArray, List.set_cons_zero, List.set_cons_succ]
    refine wpAnyH_ready (rs := [3]) (by kernel_rfl) (by simp) ?_
    refine AllReadyH.cons (o := ⟨_, _, _, _, _, _⟩) rfl (fun K hK => ?_) AllReadyH.nil
    obtain ⟨⟨z0, z1, z2, z3, z4, z5, z6⟩, hfz⟩ := HQX.out _ HX.out
    go_simp
    clear z0 z1 z2 z3 z4 z5 z6 hfz
    refine hK.out _ _ HS.out (fun _ => ?_)
    clear hK K
    refine wpAnyH_ready (rs := [4]) (by kernel_rfl) (by simp) ?_
    refine AllReadyH.cons (o := ⟨_, _, _, _, _, _⟩) rfl (fun K hK => ?_) AllReadyH.nil
    go_simp
    refine (shelf_B s b c i w5).mono ?_
    rintro e w6 ⟨rfl, hb_⟩
    have HS := Lib.hid (HS.out.all hb_); have HX := Lib.hid (HX.out.all hb_)
    have HC := Lib.hid (HC.out.trans (hb_.mono HC.out.size)); clear hb_
    refine hK.out _ _ HS.out (fun _ => ?_)
    clear hK K
    have HO6 := Lib.hid (HO.out.below HC.out); have HF6 := Lib.hid (HF.out.trans (Fr.below HC.out)); have HB6 := Lib.hid (Nat.le_trans HBS.out HC.out.size)
    have HM6 := Lib.hid (HM.out.below HC.out (Nat.le_refl _))
    clear HO HF HM HC HBS HR
    have HKY := Lib.hid (sd_two HO6.out.1.2.1 (fun j a b ha hb => (HO6.out.1.2.2 j a b ha hb).1) HW.out.sb HW.out.ab)
    have HLN : Hid (b.n ≤ 4096) := Lib.hid (by rw [HO6.out.1.1.1]; exact sd_len HKY.out.1 HKY.out.2)
    refine wpAnyH_ready (rs := [9]) (by kernel_rfl) (by simp) ?_
    refine AllReadyH.cons (o := ⟨_, _, _, _, _, _⟩) rfl (fun K hK => ?_) AllReadyH.nil
    go_simp
    refine (put_B b xs (rvw r, ⟨mA, mn, mc⟩) HV64.out base w6 HO6.out.1.1 HB6.out HLN.out HKY.out.1 HKY.out.2).mono ?_
    rintro e w7 ⟨s', rfl, ho_, hg_⟩
    have HS := Lib.hid (show Rx w7 gr r from Rg.blk_apart HS.out HO6.out.1.1.2 (by decide) hg_)
    have HP := Lib.hid (HO6.out.putB HX.out ho_ hg_ HM6.out)
    have HX := Lib.hid (show Sx w7 g s b c i from Rg.blk_apart HX.out HO6.out.1.1.2 (by decide) hg_)
    have HF7 := Lib.hid ((HF6.out.trans (Fr.grown hg_ (fun k hk => hk.2.1))).put (fun k hk => hk.1) 0 (.slice s'.a s'.n s'.c))
    clear ho_ hg_ HO6 HF6 HM6 HKY HLN
    refine hK.out _ _ HS.out (fun _ => ?_)
    clear hK K
    refine take_in (i := 10) (oi := ⟨_, _, _, _, _, _⟩) (v := ?_) rfl (by kernel_rfl) (by kernel_rfl) (by kernel_rfl) (fun _ _ _ h => h) (by rfl) ?_ HS.out ?_
    rotate_left
    · intro W hW; go_simp; with_reducible rfl
    simp only [Act.put, List.setIfInBounds_toArray, List.set_cons_zero, List.set_cons_succ]
    refine take_in (i := 11) (oi := ⟨_, _, _, _, _, _⟩) (v := ?_) rfl (by kernel_rfl) (by kernel_rfl) (by kernel_rfl) (fun _ _ _ h => h) (by rfl) ?_ HS.out ?_
    rotate_left
    · intro W hW; go_simp; with_reducible rfl
    simp only [Act.put, List.setIfInBounds_toArray, List.set_cons_zero, List.set_cons_succ]
    refine wpAnyH_ready (rs := [12]) (by kernel_rfl) (by simp) ?_
    refine AllReadyH.cons (o := ⟨_, _, _, _, _, _⟩) rfl (fun K hK => ?_) AllReadyH.nil
    obtain ⟨⟨z0, z1, z2, z3, z4, z5, z6⟩, hfz⟩ := HQX.out _ HX.out
    have hf0 := hfz 0
    clear hfz
    go_simp
    refine hK.out _ _ (HS.out.other hgne _) (fun _ => ?_)
    clear hK K z0 z1 z2 z3 z4 z5 z6 hf0
    refine wpAnyH_done (by kernel_rfl) ?_ _
    generalize w7.setCell ⟨g, 0, none⟩ (.slice s'.a s'.n s'.c) = w8 at HP HF7 ⊢
    go_wp2
    (try simp only [Exit.inBlock, Exit.then]); refine bodyPost_ret (results_none rfl _ _ _) rfl ?_
    exact ⟨rfl, _, _, _, _, _, by rw [apply1 HW.out HKI.out]; exact HP.out.1, by rw [apply1 HW.out HKI.out]; exact HP.out.2, HF7.out⟩
end Go.Proofs.YtfblnomkafimhaaGreat.Fow

namespace Go.Proofs.YtfblnomkafimhaaGreat.Fow
set_option maxRecDepth 20000
open Go.RowKit
open Chg Vw Cl Bk Lg Fo Clw Bkw
open Lgw (rvv Rx)
open Chgw (hat hbe vw ret_bool ret_i64 Vx)
open Rg (bal)
set_option maxHeartbeats 8000000 in
theorem add2_c (g : Nat) (s : St) (b c i : Sl) (xs ys : List ((Nat × Nat) × Sl)) (base : Nat) (w : World) (hx : Sx w g s b c i) (ho : Ors w base s b c i xs ys) (hw : WfS s) (r : R) (hr : OkR r) (hk : r.kind = 2) (hb : base ≤ w.heap.size) :
    Calls Tryz.prog 54 #[.pointer (some ⟨g, 0, none⟩), rvv r] w (RetAdd w base g b c i (applyS s r)) := by
  have hsf := Lgw.store_flt
  have k1 : (r.kind == 1) = false := by rw [beq_eq_false_iff_ne]; omega
  have k2 : (r.kind == 2) = true := by rw [beq_iff_eq]; omega
  have k3 : (r.kind == 3) = false := by rw [beq_eq_false_iff_ne]; omega
  have k4 : (r.kind == 4) = false := by rw [beq_eq_false_iff_ne]; omega
  have k5 : (r.kind == 5) = false := by rw [beq_eq_false_iff_ne]; omega
  have k6 : (r.kind == 6) = false := by rw [beq_eq_false_iff_ne]; omega
  have HW := Lib.hid hw; have HRR := Lib.hid (fun W => right_r hr W)
  have HOV := Lib.hid (okr_view hr).1; have HV64 := Lib.hid (okr_view hr).2.1; have HCV := Lib.hid (okr_view hr).2.2.1; have HOK := Lib.hid hr; have HKI := Lib.hid hk
  
  unfold rvv
  clear hw hr hk
  go_enter Tryz.func54, Tryz.ntmps54
  go_upto_region 1 with (fail)
  have HR := Lib.hid (show Rx (w.alloc (.cells #[.int .i64 r.kind, .int .i64 r.va, .int .i64 r.vd, .int .i64 r.cn, .int .i64 r.ca, .int .i64 r.cd, .int .i64 r.e.key, .int .i64 r.e.num, .int .i64 r.e.node, .float .f64 r.e.val, .int .i64 r.n] 60)) w.heap.size r from hat _ _ _ rfl)
  have hbx := bal (Below.refl w.heap.size w) (Nat.le_refl _) (.cells #[.int .i64 r.kind, .int .i64 r.va, .int .i64 r.vd, .int .i64 r.cn, .int .i64 r.ca, .int .i64 r.cd, .int .i64 r.e.key, .int .i64 r.e.num, .int .i64 r.e.node, .float .f64 r.e.val, .int .i64 r.n] 60)
  have HX := Lib.hid (hx.all hbx); have HO := Lib.hid (ho.below hbx); have HF := Lib.hid (Fr.below (P := Pk g b c i) hbx)
  have HBS := Lib.hid (Nat.le_trans hb hbx.size)
  have HGR := Lib.hid hx.lt
  clear hx ho hbx hb
  have hgne : w.heap.size ≠ g := Nat.ne_of_gt HGR.out
  clear HGR
  generalize w.alloc (.cells #[.int .i64 r.kind, .int .i64 r.va, .int .i64 r.vd, .int .i64 r.cn, .int .i64 r.ca, .int .i64 r.cd, .int .i64 r.e.key, .int .i64 r.e.num, .int .i64 r.e.node, .float .f64 r.e.val, .int .i64 r.n] 60) = w1 at HR HX HO HF HBS ⊢
  generalize w.heap.size = gr at HR hgne ⊢
  obtain ⟨y0, y1, y2, y3, y4, y5, y6, y7, y8, y9, y10⟩ := HR.out.cs
  rw [HOV.out.1] at y1
  rw [HOV.out.2] at y2
  go_upto_region 2 with (refine (HRR.out w1).mono ?_; rintro e w2 ⟨rfl, hb2⟩)
  have HR := Lib.hid (HR.out.all hb2); have HX := Lib.hid (HX.out.all hb2); have HO := Lib.hid (HO.out.below hb2); have HF := Lib.hid (HF.out.trans (Fr.below hb2)); have HBS := Lib.hid (Nat.le_trans HBS.out hb2.size)
  clear hb2 HRR y0 y1 y2 y3 y4 y5 y6 y7 y8 y9 y10
  have y0 : w2.cell? ⟨gr, 0, none⟩ = some (.int .i64 r.kind) := HR.out.cs.1
  go_upto_region 7 with (fail)
  clear y0
  have HQR : Hid (∀ W, Rx W gr r → (W.cell? ⟨gr, 1, none⟩ = some (.int .i64 ((rvw r).1 : Int)) ∧ W.cell? ⟨gr, 2, none⟩ = some (.int .i64 ((rvw r).2 : Int))) ∧ (W.cell? ⟨gr, 3, none⟩ = some (.int .i64 r.cn) ∧ W.cell? ⟨gr, 4, none⟩ = some (.int .i64 r.ca) ∧ W.cell? ⟨gr, 5, none⟩ = some (.int .i64 r.cd)) ∧ (W.cell? ⟨gr, 6, none⟩ = some (.int .i64 r.e.key) ∧ W.cell? ⟨gr, 7, none⟩ = some (.int .i64 r.e.num) ∧ W.cell? ⟨gr, 8, none⟩ = some (.int .i64 r.e.node) ∧ W.cell? ⟨gr, 9, none⟩ = some (.float .f64 r.e.val)) ∧ W.cell? ⟨gr, 10, none⟩ = some (.int .i64 r.n)) := Lib.hid (fun W h => by
    obtain ⟨y0, y1, y2, y3, y4, y5, y6, y7, y8, y9, y10⟩ := h.cs
    rw [HOV.out.1] at y1
    rw [HOV.out.2] at y2
    exact ⟨⟨y1, y2⟩, ⟨y3, y4, y5⟩, ⟨y6, y7, y8, y9⟩, y10⟩)
  have HQX : Hid (∀ W, Sx W g s b c i → (W.cell? ⟨g, 0, none⟩ = some (.slice b.a b.n b.c) ∧ W.cell? ⟨g, 1, none⟩ = some (.slice c.a c.n c.c) ∧ W.cell? ⟨g, 2, none⟩ = some (.slice i.a i.n i.c) ∧ W.cell? ⟨g, 3, none⟩ = some (.int .i64 (s.held.1 : Int)) ∧ W.cell? ⟨g, 4, none⟩ = some (.int .i64 (s.held.2 : Int)) ∧ W.cell? ⟨g, 5, none⟩ = some (.int .i64 s.inc) ∧ W.cell? ⟨g, 6, none⟩ = some (.int .i64 s.last)) ∧ (∀ j, W.frozen? ⟨g, j, none⟩ = false)) := Lib.hid (fun W h => ⟨h.cs, h.frozen⟩)
  go_cut [5] (fun s4 wq => ∃ (A : Option Addr) (n c2 : Nat), s4 = .slice A n c2 ∧ Rg.OwnG KC wq base A n c2 (mergeC (cellsS s (rvw r)) [rcell r]) ∧ Below w2.heap.size w2 wq)
  case first =>
    have HLB : Hid ((cellsS s (rvw r)).length * 24 ≤ 140737488355328) := Lib.hid (by have := cl_len (cellsS_cl HW.out (rvw r)); omega)
    refine wp_region_held_drew (S := fun W' => Sx W' g s b c i ∧ Rx W' gr r) (by kernel_rfl) ⟨HX.out, HR.out⟩ (fun hHeld => ?_)
    have HC : Hid (Below w2.heap.size w2 w2.drew) := Lib.hid (Below.refl _ _).drew
    have HS : Hid (Sx w2.drew g s b c i ∧ Rx w2.drew gr r) := Lib.hid hHeld
    clear hHeld
    generalize w2.drew = w5 at HC HS ⊢
    refine take_in (i := 0) (oi := ⟨_, _, _, _, _, _⟩) (v := ?_) rfl (by kernel_rfl) (by kernel_rfl) (by kernel_rfl) (fun _ _ _ h => h) (by rfl) ?_ HS.out ?_
    rotate_left
    · intro W hW; obtain ⟨⟨y1, y2⟩, ⟨y3, y4, y5⟩, ⟨y6, y7, y8, y9⟩, y10⟩ := HQR.out W hW.2; obtain ⟨⟨z0, z1, z2, z3, z4, z5, z6⟩, hfz⟩ := HQX.out W hW.1; go_simp; with_reducible rfl
    simp only [Act.put, List.setIfInBounds_toArray, List.set_cons_zero, List.set_cons_succ]
    refine take_in (i := 1) (oi := ⟨_, _, _, _, _, _⟩) (v := ?_) rfl (by kernel_rfl) (by kernel_rfl) (by kernel_rfl) (fun _ _ _ h => h) (by rfl) ?_ HS.out ?_
    rotate_left
    · intro W hW; obtain ⟨⟨y1, y2⟩, ⟨y3, y4, y5⟩, ⟨y6, y7, y8, y9⟩, y10⟩ := HQR.out W hW.2; obtain ⟨⟨z0, z1, z2, z3, z4, z5, z6⟩, hfz⟩ := HQX.out W hW.1; go_simp; with_reducible rfl
    simp only [Act.put, List.setIfInBounds_toArray, List.set_cons_zero, List.set_cons_succ]
    refine take_in (i := 2) (oi := ⟨_, _, _, _, _, _⟩) (v := ?_) rfl (by kernel_rfl) (by kernel_rfl) (by kernel_rfl) (fun _ _ _ h => h) (by rfl) ?_ HS.out ?_
    rotate_left
    · intro W hW; obtain ⟨⟨y1, y2⟩, ⟨y3, y4, y5⟩, ⟨y6, y7, y8, y9⟩, y10⟩ := HQR.out W hW.2; obtain ⟨⟨z0, z1, z2, z3, z4, z5, z6⟩, hfz⟩ := HQX.out W hW.1; go_simp; with_reducible rfl
    simp only [Act.put, List.setIfInBounds_toArray, List.set_cons_zero, List.set_cons_succ]
    refine take_in (i := 3) (oi := ⟨_, _, _, _, _, _⟩) (v := ?_) rfl (by kernel_rfl) (by kernel_rfl) (by kernel_rfl) (fun _ _ _ h => h) (by rfl) ?_ HS.out ?_
    rotate_left
    · intro W hW; obtain ⟨⟨y1, y2⟩, ⟨y3, y4, y5⟩, ⟨y6, y7, y8, y9⟩, y10⟩ := HQR.out W hW.2; obtain ⟨⟨z0, z1, z2, z3, z4, z5, z6⟩, hfz⟩ := HQX.out W hW.1; go_simp; with_reducible rfl
    simp only [Act.put, List.setIfInBounds_toArray, List.set_cons_zero, List.set_cons_succ]
    refine take_in (i := 4) (oi := ⟨_, _, _, _, _, _⟩) (v := ?_) rfl (by kernel_rfl) (by kernel_rfl) (by kernel_rfl) (fun _ _ _ h => h) (by rfl) ?_ HS.out ?_
    rotate_left
    · intro W hW; obtain ⟨⟨y1, y2⟩, ⟨y3, y4, y5⟩, ⟨y6, y7, y8, y9⟩, y10⟩ := HQR.out W hW.2; obtain ⟨⟨z0, z1, z2, z3, z4, z5, z6⟩, hfz⟩ := HQX.out W hW.1; go_simp; with_reducible rfl
    simp only [Act.put, List.setIfInBounds_toArray, List.set_cons_zero, List.set_cons_succ]
    refine take_in (i := 6) (oi := ⟨_, _, _, _, _, _⟩) (v := ?_) rfl (by kernel_rfl) (by kernel_rfl) (by kernel_rfl) (fun _ _ _ h => h) (by rfl) ?_ HS.out ?_
    rotate_left
    · intro W hW; obtain ⟨⟨y1, y2⟩, ⟨y3, y4, y5⟩, ⟨y6, y7, y8, y9⟩, y10⟩ := HQR.out W hW.2; obtain ⟨⟨z0, z1, z2, z3, z4, z5, z6⟩, hfz⟩ := HQX.out W hW.1; go_simp; with_reducible rfl
    simp only [Act.put, List.setIfInBounds_toArray, List.set_cons_zero, List.set_cons_succ]
    refine take_in (i := 7) (oi := ⟨_, _, _, _, _, _⟩) (v := ?_) rfl (by kernel_rfl) (by kernel_rfl) (by kernel_rfl) (fun _ _ _ h => h) (by rfl) ?_ HS.out ?_
    rotate_left
    · intro W hW; obtain ⟨⟨y1, y2⟩, ⟨y3, y4, y5⟩, ⟨y6, y7, y8, y9⟩, y10⟩ := HQR.out W hW.2; obtain ⟨⟨z0, z1, z2, z3, z4, z5, z6⟩, hfz⟩ := HQX.out W hW.1; go_simp; with_reducible rfl
    simp only [Act.put, List.setIfInBounds_toArray, List.set_cons_zero, List.set_cons_succ]
    refine wpAnyH_ready (rs := [5, 8]) (by kernel_rfl) (by simp) ?_
    refine AllReadyH.cons (o := ⟨_, _, _, _, _, _⟩) rfl (fun K hK => ?_) (AllReadyH.cons (o := ⟨_, _, _, _, _, _⟩) rfl (fun K hK => ?_) AllReadyH.nil)
    · go_simp
      refine (cells_c s b c i w5 ((HO.out.below HC.out).stoW HW.out) HW.out (rvw r) HV64.out).mono ?_
      rintro e x1 ⟨bA, bn, bc, rfl, ho_, hb_⟩
      have HOB := Lib.hid (ho_.base (Nat.le_trans HBS.out HC.out.size)); clear ho_
      have HS := Lib.hid (show Sx x1 g s b c i ∧ Rx x1 gr r from ⟨HS.out.1.all hb_, HS.out.2.all hb_⟩)
      have HC := Lib.hid (HC.out.trans (hb_.mono HC.out.size)); clear hb_
      refine hK.out _ _ HS.out (fun _ => ?_)
      clear hK K
      refine wpAnyH_ready (rs := [8]) (by kernel_rfl) (by simp) ?_
      refine AllReadyH.cons (o := ⟨_, _, _, _, _, _⟩) rfl (fun K hK => ?_) AllReadyH.nil
      go_simp
      have hb_ := bal (Below.refl x1.heap.size x1) (Nat.le_refl _) (.cells #[.int .i64 r.cn, .int .i64 r.ca, .int .i64 r.cd] 53)
      have HON := Lib.hid (sc_one x1 (rcell r))
      rw [show (.cells #[.int .i64 (rcell r).1, .int .i64 (rcell r).2.1, .int .i64 (rcell r).2.2] 53 : Obj) = (.cells #[.int .i64 r.cn, .int .i64 r.ca, .int .i64 r.cd] 53) from rfl] at HON
      have HOB := Lib.hid (HOB.out.below hb_ (Nat.le_refl _))
      have HS := Lib.hid (show Sx (x1.alloc (.cells #[.int .i64 r.cn, .int .i64 r.ca, .int .i64 r.cd] 53)) g s b c i ∧ Rx (x1.alloc (.cells #[.int .i64 r.cn, .int .i64 r.ca, .int .i64 r.cd] 53)) gr r from ⟨HS.out.1.all hb_, HS.out.2.all hb_⟩)
      have HC := Lib.hid (HC.out.trans (hb_.mono HC.out.size)); clear hb_
      refine hK.out _ _ HS.out (fun _ => ?_)
      clear hK K
      generalize (x1.alloc (.cells #[.int .i64 r.cn, .int .i64 r.ca, .int .i64 r.cd] 53)) = x2 at HS HC HON HOB ⊢
      generalize x1.heap.size = gn at HON ⊢
      refine wpAnyH_ready (rs := [9]) (by kernel_rfl) (by simp) ?_
      refine AllReadyH.cons (o := ⟨_, _, _, _, _, _⟩) rfl (fun K hK => ?_) AllReadyH.nil
      go_simp
      refine (merge_row bA bn bc _ _ 1 1 [rcell r] x2 (Sc.own HOB.out (by have := HLB.out; have := HOB.out.1; omega)) HON.out).mono ?_
      rintro e x3 ⟨mA, mn, mc, rfl, ho_, hb_⟩
      have HM := Lib.hid (ho_.base (Nat.le_trans HBS.out HC.out.size)); clear ho_
      have HS := Lib.hid (show Sx x3 g s b c i ∧ Rx x3 gr r from ⟨HS.out.1.all hb_, HS.out.2.all hb_⟩)
      have HC := Lib.hid (HC.out.trans (hb_.mono HC.out.size)); clear hb_
      refine hK.out _ _ HS.out (fun _ => ?_)
      clear hK K
      refine take_in (i := 10) (oi := ⟨_, _, _, _, _, _⟩) (v := ?_) rfl (by kernel_rfl) (by kernel_rfl) (by kernel_rfl) (fun _ _ _ h => h) (by rfl) ?_ HS.out ?_
      rotate_left
      · intro W hW; go_simp; with_reducible rfl
      simp only [Act.put, List.setIfInBounds_toArray, List.set_cons_zero, List.set_cons_succ]
      refine wpAnyH_done (by kernel_rfl) ?_ _
      go_wp2
      go_meet
      case rel => exact ⟨mA, mn, mc, rfl, HM.out, HC.out⟩
    · go_simp
      have hb_ := bal (Below.refl w5.heap.size w5) (Nat.le_refl _) (.cells #[.int .i64 r.cn, .int .i64 r.ca, .int .i64 r.cd] 53)
      have HON := Lib.hid (sc_one w5 (rcell r))
      rw [show (.cells #[.int .i64 (rcell r).1, .int .i64 (rcell r).2.1, .int .i64 (rcell r).2.2] 53 : Obj) = (.cells #[.int .i64 r.cn, .int .i64 r.ca, .int .i64 r.cd] 53) from rfl] at HON
      have HS := Lib.hid (show Sx (w5.alloc (.cells #[.int .i64 r.cn, .int .i64 r.ca, .int .i64 r.cd] 53)) g s b c i ∧ Rx (w5.alloc (.cells #[.int .i64 r.cn, .int .i64 r.ca, .int .i64 r.cd] 53)) gr r from ⟨HS.out.1.all hb_, HS.out.2.all hb_⟩)
      have HC := Lib.hid (HC.out.trans (hb_.mono HC.out.size)); clear hb_
      refine hK.out _ _ HS.out (fun _ => ?_)
      clear hK K
      generalize (w5.alloc (.cells #[.int .i64 r.cn, .int .i64 r.ca, .int .i64 r.cd] 53)) = x1 at HS HC HON ⊢
      generalize w5.heap.size = gn at HON ⊢
      refine wpAnyH_ready (rs := [5]) (by kernel_rfl) (by simp) ?_
      refine AllReadyH.cons (o := ⟨_, _, _, _, _, _⟩) rfl (fun K hK => ?_) AllReadyH.nil
      go_simp
      refine (cells_c s b c i x1 ((HO.out.below HC.out).stoW HW.out) HW.out (rvw r) HV64.out).mono ?_
      rintro e x2 ⟨bA, bn, bc, rfl, ho_, hb_⟩
      have HOB := Lib.hid (ho_.base (Nat.le_trans HBS.out HC.out.size)); clear ho_
      have HON := Lib.hid (HON.out.all hb_)
      have HS := Lib.hid (show Sx x2 g s b c i ∧ Rx x2 gr r from ⟨HS.out.1.all hb_, HS.out.2.all hb_⟩)
      have HC := Lib.hid (HC.out.trans (hb_.mono HC.out.size)); clear hb_
      refine hK.out _ _ HS.out (fun _ => ?_)
      clear hK K
      refine wpAnyH_ready (rs := [9]) (by kernel_rfl) (by simp) ?_
      refine AllReadyH.cons (o := ⟨_, _, _, _, _, _⟩) rfl (fun K hK => ?_) AllReadyH.nil
      go_simp
      refine (merge_row bA bn bc _ _ 1 1 [rcell r] x2 (Sc.own HOB.out (by have := HLB.out; have := HOB.out.1; omega)) HON.out).mono ?_
      rintro e x3 ⟨mA, mn, mc, rfl, ho_, hb_⟩
      have HM := Lib.hid (ho_.base (Nat.le_trans HBS.out HC.out.size)); clear ho_
      have HS := Lib.hid (show Sx x3 g s b c i ∧ Rx x3 gr r from ⟨HS.out.1.all hb_, HS.out.2.all hb_⟩)
      have HC := Lib.hid (HC.out.trans (hb_.mono HC.out.size)); clear hb_
      refine hK.out _ _ HS.out (fun _ => ?_)
      clear hK K
      refine take_in (i := 10) (oi := ⟨_, _, _, _, _, _⟩) (v := ?_) rfl (by kernel_rfl) (by kernel_rfl) (by kernel_rfl) (fun _ _ _ h => h) (by rfl) ?_ HS.out ?_
      rotate_left
      · intro W hW; go_simp; with_reducible rfl
      simp only [Act.put, List.setIfInBounds_toArray, List.set_cons_zero, List.set_cons_succ]
      refine wpAnyH_done (by kernel_rfl) ?_ _
      go_wp2
      go_meet
      case rel => exact ⟨mA, mn, mc, rfl, HM.out, HC.out⟩
  case rest =>
    obtain ⟨mA, mn, mc, rfl, hm, hbc⟩ := hcut
    have HM := Lib.hid hm; have HX := Lib.hid (HX.out.all hbc); have HR := Lib.hid (HR.out.all hbc); have HO := Lib.hid (HO.out.below hbc); have HF := Lib.hid (HF.out.trans (Fr.below hbc)); have HBS := Lib.hid (Nat.le_trans HBS.out hbc.size)
    clear hm hbc
    go_upto_region 8 with (fail)
    refine wp_region_held_drew (S := fun W' => Rx W' gr r) (by kernel_rfl) HR.out (fun hHeld => ?_)
    have HC : Hid (Below wc.heap.size wc wc.drew) := Lib.hid (Below.refl _ _).drew
    have HS : Hid (Rx wc.drew gr r) := Lib.hid hHeld
    have HX : Hid (Sx wc.drew g s b c i) := Lib.hid HX.out
    clear hHeld
    generalize wc.drew = w5 at HC HS HX ⊢
    refine take_in (i := 0) (oi := ⟨_, _, _, _, _, _⟩) (v := ?_) rfl (by kernel_rfl) (by kernel_rfl) (by kernel_rfl) (fun _ _ _ h => h) (by rfl) ?_ HS.out ?_
    rotate_left
    · intro W hW; obtain ⟨⟨y1, y2⟩, ⟨y3, y4, y5⟩, ⟨y6, y7, y8, y9⟩, y10⟩ := HQR.out W hW; go_simp; with_reducible rfl
    simp only [Act.put, List.setIfInBounds_toArray, List.set_cons_zero, List.set_cons_succ]
    refine take_in (i := 1) (oi := ⟨_, _, _, _, _, _⟩) (v := ?_) rfl (by kernel_rfl) (by kernel_rfl) (by kernel_rfl) (fun _ _ _ h => h) (by rfl) ?_ HS.out ?_
    rotate_left
    · intro W hW; obtain ⟨⟨y1, y2⟩, ⟨y3, y4, y5⟩, ⟨y6, y7, y8, y9⟩, y10⟩ := HQR.out W hW; go_simp; with_reducible rfl
    simp only [Act.put, List.setIfInBounds_toArray, List.set_cons_zero, List.set_cons_succ]
    refine take_in (i := 2) (oi := ⟨_, _, _, _, _, _⟩) (v := ?_) rfl (by kernel_rfl) (by kernel_rfl) (by kernel_rfl) (fun _ _ _ h => h) (by rfl) ?_ HS.out ?_
    rotate_left
    · intro W hW; obtain ⟨⟨y1, y2⟩, ⟨y3, y4, y5⟩, ⟨y6, y7, y8, y9⟩, y10⟩ := HQR.out W hW; go_simp; with_reducible rfl
    simp only [Act.put, List.setIfInBounds_toArray, List.set_cons_zero, List.set_cons_succ]
    refine take_in (i := 5) (oi := ⟨_, _, _, _, _, _⟩) (v := ?_) rfl (by kernel_rfl) (by kernel_rfl) (by kernel_rfl) (fun _ _ _ h => h) (by rfl) ?_ HS.out ?_
    rotate_left
    · intro W hW; obtain ⟨⟨y1, y2⟩, ⟨y3, y4, y5⟩, ⟨y6, y7, y8, y9⟩, y10⟩ := HQR.out W hW; go_simp; with_reducible rfl
    simp only [Act.put, List.setIfInBounds_toArray, List.set_cons_zero, List.set_cons_succ]
    refine take_in (i := 6) (oi := ⟨_, _, _, _, _, _⟩) (v := ?_) rfl (by kernel_rfl) (by kernel_rfl) (by kernel_rfl) (fun _ _ _ h => h) (by rfl) ?_ HS.out ?_
    rotate_left
    · intro W hW; obtain ⟨⟨y1, y2⟩, ⟨y3, y4, y5⟩, ⟨y6, y7, y8, y9⟩, y10⟩ := HQR.out W hW; go_simp; with_reducible rfl
    simp only [Act.put, List.setIfInBounds_toArray, List.set_cons_zero, List.set_cons_succ]
    refine take_in (i := 7) (oi := ⟨_, _, _, _, _, _⟩) (v := ?_) rfl (by kernel_rfl) (by kernel_rfl) (by kernel_rfl) (fun _ _ _ h => h) (by rfl) ?_ HS.out ?_
    rotate_left
    · intro W hW; obtain ⟨⟨y1, y2⟩, ⟨y3, y4, y5⟩, ⟨y6, y7, y8, y9⟩, y10⟩ := HQR.out W hW; go_simp; with_reducible rfl
    simp only [Act.put, List.setIfInBounds_toArray, List.set_cons_zero, List.set_cons_succ]
    refine take_in (i := 8) (oi := ⟨_, _, _, _, _, _⟩) (v := ?_) rfl (by kernel_rfl) (by kernel_rfl) (by kernel_rfl) (fun _ _ _ h => h) (by rfl) ?_ HS.out ?_
    rotate_left
    · intro W hW; obtain ⟨⟨y1, y2⟩, ⟨y3, y4, y5⟩, ⟨y6, y7, y8, y9⟩, y10⟩ := HQR.out W hW; go_simp; with_reducible rfl
    simp only [Act.put, List.setIfInBounds_toArray, List.set_cons_zero, List.set_cons_succ]
    refine wpAnyH_ready (rs := [3]) (by kernel_rfl) (by simp) ?_
    refine AllReadyH.cons (o := ⟨_, _, _, _, _, _⟩) rfl (fun K hK => ?_) AllReadyH.nil
    obtain ⟨⟨z0, z1, z2, z3, z4, z5, z6⟩, hfz⟩ := HQX.out _ HX.out
    go_simp
    clear z0 z1 z2 z3 z4 z5 z6 hfz
    refine hK.out _ _ HS.out (fun _ => ?_)
    clear hK K
    refine wpAnyH_ready (rs := [4]) (by kernel_rfl) (by simp) ?_
    refine AllReadyH.cons (o := ⟨_, _, _, _, _, _⟩) rfl (fun K hK => ?_) AllReadyH.nil
    go_simp
    refine (shelf_C s b c i w5).mono ?_
    rintro e w6 ⟨rfl, hb_⟩
    have HS := Lib.hid (HS.out.all hb_); have HX := Lib.hid (HX.out.all hb_)
    have HC := Lib.hid (HC.out.trans (hb_.mono HC.out.size)); clear hb_
    refine hK.out _ _ HS.out (fun _ => ?_)
    clear hK K
    have HO6 := Lib.hid (HO.out.below HC.out); have HF6 := Lib.hid (HF.out.trans (Fr.below HC.out)); have HB6 := Lib.hid (Nat.le_trans HBS.out HC.out.size)
    have HM6 := Lib.hid (HM.out.below HC.out (Nat.le_refl _))
    clear HO HF HM HC HBS HR
    have HKY := Lib.hid (sd_two HO6.out.2.1.2.1 (fun j a b ha hb => (HO6.out.2.1.2.2 j a b ha hb).1) HW.out.sc HW.out.ac)
    have HLN : Hid (c.n ≤ 4096) := Lib.hid (by rw [HO6.out.2.1.1.1]; exact sd_len HKY.out.1 HKY.out.2)
    refine wpAnyH_ready (rs := [9]) (by kernel_rfl) (by simp) ?_
    refine AllReadyH.cons (o := ⟨_, _, _, _, _, _⟩) rfl (fun K hK => ?_) AllReadyH.nil
    go_simp
    refine (put_C c ys (rvw r, ⟨mA, mn, mc⟩) HV64.out base w6 HO6.out.2.1.1 HB6.out HLN.out HKY.out.1 HKY.out.2).mono ?_
    rintro e w7 ⟨s', rfl, ho_, hg_⟩
    have HS := Lib.hid (show Rx w7 gr r from Rg.blk_apart HS.out HO6.out.2.1.1.2 (by decide) hg_)
    have HP := Lib.hid (HO6.out.putC HX.out ho_ hg_ HM6.out)
    have HX := Lib.hid (show Sx w7 g s b c i from Rg.blk_apart HX.out HO6.out.2.1.1.2 (by decide) hg_)
    have HF7 := Lib.hid ((HF6.out.trans (Fr.grown hg_ (fun k hk => hk.2.2.1))).put (fun k hk => hk.1) 1 (.slice s'.a s'.n s'.c))
    clear ho_ hg_ HO6 HF6 HM6 HKY HLN
    refine hK.out _ _ HS.out (fun _ => ?_)
    clear hK K
    refine take_in (i := 10) (oi := ⟨_, _, _, _, _, _⟩) (v := ?_) rfl (by kernel_rfl) (by kernel_rfl) (by kernel_rfl) (fun _ _ _ h => h) (by rfl) ?_ HS.out ?_
    rotate_left
    · intro W hW; go_simp; with_reducible rfl
    simp only [Act.put, List.setIfInBounds_toArray, List.set_cons_zero, List.set_cons_succ]
    refine take_in (i := 11) (oi := ⟨_, _, _, _, _, _⟩) (v := ?_) rfl (by kernel_rfl) (by kernel_rfl) (by kernel_rfl) (fun _ _ _ h => h) (by rfl) ?_ HS.out ?_
    rotate_left
    · intro W hW; go_simp; with_reducible rfl
    simp only [Act.put, List.setIfInBounds_toArray, List.set_cons_zero, List.set_cons_succ]
    refine wpAnyH_ready (rs := [12]) (by kernel_rfl) (by simp) ?_
    refine AllReadyH.cons (o := ⟨_, _, _, _, _, _⟩) rfl (fun K hK => ?_) AllReadyH.nil
    obtain ⟨⟨z0, z1, z2, z3, z4, z5, z6⟩, hfz⟩ := HQX.out _ HX.out
    have hf0 := hfz 1
    clear hfz
    go_simp
    refine hK.out _ _ (HS.out.other hgne _) (fun _ => ?_)
    clear hK K z0 z1 z2 z3 z4 z5 z6 hf0
    refine wpAnyH_done (by kernel_rfl) ?_ _
    generalize w7.setCell ⟨g, 1, none⟩ (.slice s'.a s'.n s'.c) = w8 at HP HF7 ⊢
    go_wp2
    (try simp only [Exit.inBlock, Exit.then]); refine bodyPost_ret (results_none rfl _ _ _) rfl ?_
    exact ⟨rfl, _, _, _, _, _, by rw [apply2 HW.out HKI.out]; exact HP.out.1, by rw [apply2 HW.out HKI.out]; exact HP.out.2, HF7.out⟩
end Go.Proofs.YtfblnomkafimhaaGreat.Fow

namespace Go.Proofs.YtfblnomkafimhaaGreat.Fow
set_option maxRecDepth 20000
open Go.RowKit
open Chg Vw Cl Bk Lg Fo Clw Bkw
open Lgw (rvv Rx)
open Chgw (hat hbe vw ret_bool ret_i64 Vx)
open Rg (bal)
set_option maxHeartbeats 8000000 in
theorem add3_c (g : Nat) (s : St) (b c i : Sl) (xs ys : List ((Nat × Nat) × Sl)) (base : Nat) (w : World) (hx : Sx w g s b c i) (ho : Ors w base s b c i xs ys) (hw : WfS s) (r : R) (hr : OkR r) (hk : r.kind = 3) (hb : base ≤ w.heap.size) :
    Calls Tryz.prog 54 #[.pointer (some ⟨g, 0, none⟩), rvv r] w (RetAdd w base g b c i (applyS s r)) := by
  have hsf := Lgw.store_flt
  have k1 : (r.kind == 1) = false := by rw [beq_eq_false_iff_ne]; omega
  have k2 : (r.kind == 2) = false := by rw [beq_eq_false_iff_ne]; omega
  have k3 : (r.kind == 3) = true := by rw [beq_iff_eq]; omega
  have k4 : (r.kind == 4) = false := by rw [beq_eq_false_iff_ne]; omega
  have k5 : (r.kind == 5) = false := by rw [beq_eq_false_iff_ne]; omega
  have k6 : (r.kind == 6) = false := by rw [beq_eq_false_iff_ne]; omega
  have HW := Lib.hid hw; have HRR := Lib.hid (fun W => right_r hr W)
  have HOV := Lib.hid (okr_view hr).1; have HV64 := Lib.hid (okr_view hr).2.1; have HCV := Lib.hid (okr_view hr).2.2.1; have HOK := Lib.hid hr; have HKI := Lib.hid hk
  
  unfold rvv
  clear hw hr hk
  go_enter Tryz.func54, Tryz.ntmps54
  go_upto_region 1 with (fail)
  have HR := Lib.hid (show Rx (w.alloc (.cells #[.int .i64 r.kind, .int .i64 r.va, .int .i64 r.vd, .int .i64 r.cn, .int .i64 r.ca, .int .i64 r.cd, .int .i64 r.e.key, .int .i64 r.e.num, .int .i64 r.e.node, .float .f64 r.e.val, .int .i64 r.n] 60)) w.heap.size r from hat _ _ _ rfl)
  have hbx := bal (Below.refl w.heap.size w) (Nat.le_refl _) (.cells #[.int .i64 r.kind, .int .i64 r.va, .int .i64 r.vd, .int .i64 r.cn, .int .i64 r.ca, .int .i64 r.cd, .int .i64 r.e.key, .int .i64 r.e.num, .int .i64 r.e.node, .float .f64 r.e.val, .int .i64 r.n] 60)
  have HX := Lib.hid (hx.all hbx); have HO := Lib.hid (ho.below hbx); have HF := Lib.hid (Fr.below (P := Pk g b c i) hbx)
  have HBS := Lib.hid (Nat.le_trans hb hbx.size)
  have HGR := Lib.hid hx.lt
  clear hx ho hbx hb
  have hgne : w.heap.size ≠ g := Nat.ne_of_gt HGR.out
  clear HGR
  generalize w.alloc (.cells #[.int .i64 r.kind, .int .i64 r.va, .int .i64 r.vd, .int .i64 r.cn, .int .i64 r.ca, .int .i64 r.cd, .int .i64 r.e.key, .int .i64 r.e.num, .int .i64 r.e.node, .float .f64 r.e.val, .int .i64 r.n] 60) = w1 at HR HX HO HF HBS ⊢
  generalize w.heap.size = gr at HR hgne ⊢
  obtain ⟨y0, y1, y2, y3, y4, y5, y6, y7, y8, y9, y10⟩ := HR.out.cs
  rw [HOV.out.1] at y1
  rw [HOV.out.2] at y2
  go_upto_region 2 with (refine (HRR.out w1).mono ?_; rintro e w2 ⟨rfl, hb2⟩)
  have HR := Lib.hid (HR.out.all hb2); have HX := Lib.hid (HX.out.all hb2); have HO := Lib.hid (HO.out.below hb2); have HF := Lib.hid (HF.out.trans (Fr.below hb2)); have HBS := Lib.hid (Nat.le_trans HBS.out hb2.size)
  clear hb2 HRR y0 y1 y2 y3 y4 y5 y6 y7 y8 y9 y10
  have y0 : w2.cell? ⟨gr, 0, none⟩ = some (.int .i64 r.kind) := HR.out.cs.1
  go_upto_region 10 with (fail)
  clear y0
  have HQR : Hid (∀ W, Rx W gr r → (W.cell? ⟨gr, 1, none⟩ = some (.int .i64 ((rvw r).1 : Int)) ∧ W.cell? ⟨gr, 2, none⟩ = some (.int .i64 ((rvw r).2 : Int))) ∧ (W.cell? ⟨gr, 3, none⟩ = some (.int .i64 r.cn) ∧ W.cell? ⟨gr, 4, none⟩ = some (.int .i64 r.ca) ∧ W.cell? ⟨gr, 5, none⟩ = some (.int .i64 r.cd)) ∧ (W.cell? ⟨gr, 6, none⟩ = some (.int .i64 r.e.key) ∧ W.cell? ⟨gr, 7, none⟩ = some (.int .i64 r.e.num) ∧ W.cell? ⟨gr, 8, none⟩ = some (.int .i64 r.e.node) ∧ W.cell? ⟨gr, 9, none⟩ = some (.float .f64 r.e.val)) ∧ W.cell? ⟨gr, 10, none⟩ = some (.int .i64 r.n)) := Lib.hid (fun W h => by
    obtain ⟨y0, y1, y2, y3, y4, y5, y6, y7, y8, y9, y10⟩ := h.cs
    rw [HOV.out.1] at y1
    rw [HOV.out.2] at y2
    exact ⟨⟨y1, y2⟩, ⟨y3, y4, y5⟩, ⟨y6, y7, y8, y9⟩, y10⟩)
  have HQX : Hid (∀ W, Sx W g s b c i → (W.cell? ⟨g, 0, none⟩ = some (.slice b.a b.n b.c) ∧ W.cell? ⟨g, 1, none⟩ = some (.slice c.a c.n c.c) ∧ W.cell? ⟨g, 2, none⟩ = some (.slice i.a i.n i.c) ∧ W.cell? ⟨g, 3, none⟩ = some (.int .i64 (s.held.1 : Int)) ∧ W.cell? ⟨g, 4, none⟩ = some (.int .i64 (s.held.2 : Int)) ∧ W.cell? ⟨g, 5, none⟩ = some (.int .i64 s.inc) ∧ W.cell? ⟨g, 6, none⟩ = some (.int .i64 s.last)) ∧ (∀ j, W.frozen? ⟨g, j, none⟩ = false)) := Lib.hid (fun W h => ⟨h.cs, h.frozen⟩)
  have HWI := Lib.hid (fun W => Chgw.within_c s.held.1 s.held.2 HW.out.hv.1 HW.out.hv.2 (rvw r).1 (rvw r).2 HV64.out.1 HV64.out.2 W)
  rw [within_v2] at HWI
  unfold vw at HWI
  have HAP : Hid (applyS s r = if within2 s.held (rvw r) then { s with held := rvw r } else s) := Lib.hid (by unfold applyS; rw [if_neg (by have := HKI.out; omega), if_neg (by have := HKI.out; omega), if_pos HKI.out])
  refine wp_region_held_drew (S := fun W' => Sx W' g s b c i ∧ Rx W' gr r) (by kernel_rfl) ⟨HX.out, HR.out⟩ (fun hHeld => ?_)
  have HC : Hid (Below w2.heap.size w2 w2.drew) := Lib.hid (Below.refl _ _).drew
  have HS : Hid (Sx w2.drew g s b c i ∧ Rx w2.drew gr r) := Lib.hid hHeld
  clear hHeld
  generalize w2.drew = w5 at HC HS ⊢
  refine take_in (i := 0) (oi := ⟨_, _, _, _, _, _⟩) (v := ?_) rfl (by kernel_rfl) (by kernel_rfl) (by kernel_rfl) (fun _ _ _ h => h) (by rfl) ?_ HS.out ?_
  rotate_left
  · intro W hW; obtain ⟨⟨y1, y2⟩, ⟨y3, y4, y5⟩, ⟨y6, y7, y8, y9⟩, y10⟩ := HQR.out W hW.2; obtain ⟨⟨z0, z1, z2, z3, z4, z5, z6⟩, hfz⟩ := HQX.out W hW.1; go_simp; with_reducible rfl
  simp only [Act.put, List.setIfInBounds_toArray, List.set_cons_zero, List.set_cons_succ]
  refine take_in (i := 1) (oi := ⟨_, _, _, _, _, _⟩) (v := ?_) rfl (by kernel_rfl) (by kernel_rfl) (by kernel_rfl) (fun _ _ _ h => h) (by rfl) ?_ HS.out ?_
  rotate_left
  · intro W hW; obtain ⟨⟨y1, y2⟩, ⟨y3, y4, y5⟩, ⟨y6, y7, y8, y9⟩, y10⟩ := HQR.out W hW.2; obtain ⟨⟨z0, z1, z2, z3, z4, z5, z6⟩, hfz⟩ := HQX.out W hW.1; go_simp; with_reducible rfl
  simp only [Act.put, List.setIfInBounds_toArray, List.set_cons_zero, List.set_cons_succ]
  refine take_in (i := 2) (oi := ⟨_, _, _, _, _, _⟩) (v := ?_) rfl (by kernel_rfl) (by kernel_rfl) (by kernel_rfl) (fun _ _ _ h => h) (by rfl) ?_ HS.out ?_
  rotate_left
  · intro W hW; obtain ⟨⟨y1, y2⟩, ⟨y3, y4, y5⟩, ⟨y6, y7, y8, y9⟩, y10⟩ := HQR.out W hW.2; obtain ⟨⟨z0, z1, z2, z3, z4, z5, z6⟩, hfz⟩ := HQX.out W hW.1; go_simp; with_reducible rfl
  simp only [Act.put, List.setIfInBounds_toArray, List.set_cons_zero, List.set_cons_succ]
  refine take_in (i := 3) (oi := ⟨_, _, _, _, _, _⟩) (v := ?_) rfl (by kernel_rfl) (by kernel_rfl) (by kernel_rfl) (fun _ _ _ h => h) (by rfl) ?_ HS.out ?_
  rotate_left
  · intro W hW; obtain ⟨⟨y1, y2⟩, ⟨y3, y4, y5⟩, ⟨y6, y7, y8, y9⟩, y10⟩ := HQR.out W hW.2; obtain ⟨⟨z0, z1, z2, z3, z4, z5, z6⟩, hfz⟩ := HQX.out W hW.1; go_simp; with_reducible rfl
  simp only [Act.put, List.setIfInBounds_toArray, List.set_cons_zero, List.set_cons_succ]
  refine take_in (i := 4) (oi := ⟨_, _, _, _, _, _⟩) (v := ?_) rfl (by kernel_rfl) (by kernel_rfl) (by kernel_rfl) (fun _ _ _ h => h) (by rfl) ?_ HS.out ?_
  rotate_left
  · intro W hW; obtain ⟨⟨y1, y2⟩, ⟨y3, y4, y5⟩, ⟨y6, y7, y8, y9⟩, y10⟩ := HQR.out W hW.2; obtain ⟨⟨z0, z1, z2, z3, z4, z5, z6⟩, hfz⟩ := HQX.out W hW.1; go_simp; with_reducible rfl
  simp only [Act.put, List.setIfInBounds_toArray, List.set_cons_zero, List.set_cons_succ]
  refine take_in (i := 5) (oi := ⟨_, _, _, _, _, _⟩) (v := ?_) rfl (by kernel_rfl) (by kernel_rfl) (by kernel_rfl) (fun _ _ _ h => h) (by rfl) ?_ HS.out ?_
  rotate_left
  · intro W hW; obtain ⟨⟨y1, y2⟩, ⟨y3, y4, y5⟩, ⟨y6, y7, y8, y9⟩, y10⟩ := HQR.out W hW.2; obtain ⟨⟨z0, z1, z2, z3, z4, z5, z6⟩, hfz⟩ := HQX.out W hW.1; go_simp; with_reducible rfl
  simp only [Act.put, List.setIfInBounds_toArray, List.set_cons_zero, List.set_cons_succ]
  refine wpAnyH_ready (rs := [6]) (by kernel_rfl) (by simp) ?_
  refine AllReadyH.cons (o := ⟨_, _, _, _, _, _⟩) rfl (fun K hK => ?_) AllReadyH.nil
  go_simp
  refine (HWI.out w5).mono ?_
  rintro e w6 ⟨rfl, hb_⟩
  have HS := Lib.hid (show Sx w6 g s b c i ∧ Rx w6 gr r from ⟨HS.out.1.all hb_, HS.out.2.all hb_⟩)
  have HC := Lib.hid (HC.out.trans (hb_.mono HC.out.size)); clear hb_
  refine hK.out _ _ HS.out (fun _ => ?_)
  clear hK K
  refine wpAnyH_done (by kernel_rfl) ?_ _
  have HO6 := Lib.hid (HO.out.below HC.out); have HF6 := Lib.hid (HF.out.trans (Fr.below HC.out))
  clear HO HF HC HX HR HWI
  obtain ⟨⟨y1, y2⟩, ⟨y3, y4, y5⟩, ⟨y6, y7, y8, y9⟩, y10⟩ := HQR.out _ HS.out.2
  obtain ⟨⟨z0, z1, z2, z3, z4, z5, z6⟩, hfz⟩ := HQX.out _ HS.out.1
  have hf3 := hfz 3; have hf4 := hfz 4
  clear hfz
  have HXN := Lib.hid (show Sx ((w6.setCell ⟨g, 3, none⟩ (.int .i64 ((rvw r).1 : Int))).setCell ⟨g, 4, none⟩ (.int .i64 ((rvw r).2 : Int))) g { s with held := rvw r } b c i from (HS.out.1.put1 3 (.int .i64 ((rvw r).1 : Int)) { s with held := ((rvw r).1, s.held.2) } b c i rfl).put1 4 (.int .i64 ((rvw r).2 : Int)) _ _ _ _ rfl)
  have HON := Lib.hid (show Ors ((w6.setCell ⟨g, 3, none⟩ (.int .i64 ((rvw r).1 : Int))).setCell ⟨g, 4, none⟩ (.int .i64 ((rvw r).2 : Int))) base { s with held := rvw r } b c i xs ys from (HO6.out.put1 HS.out.1 3 _).put1 (HS.out.1.put1 3 (.int .i64 ((rvw r).1 : Int)) { s with held := ((rvw r).1, s.held.2) } b c i rfl) 4 _)
  have HFN := Lib.hid ((HF6.out.put (fun k hk => hk.1) 3 (.int .i64 ((rvw r).1 : Int))).put (fun k hk => hk.1) 4 (.int .i64 ((rvw r).2 : Int)))
  cases hh : within2 s.held (rvw r) with
  | false =>
    have HE := Lib.hid (show applyS s r = s from by rw [HAP.out, hh]; rfl)
    clear HXN HON HFN
    go_wp2
    (try simp only [Exit.inBlock, Exit.then]); refine bodyPost_ret (results_none rfl _ _ _) rfl ?_
    exact ⟨rfl, _, _, _, _, _, by rw [HE.out]; exact HS.out.1, by rw [HE.out]; exact HO6.out, HF6.out⟩
  | true =>
    have HE := Lib.hid (show applyS s r = { s with held := rvw r } from by rw [HAP.out, hh]; rfl)
    go_wp2
    (try simp only [Exit.inBlock, Exit.then]); refine bodyPost_ret (results_none rfl _ _ _) rfl ?_
    exact ⟨rfl, _, _, _, _, _, by rw [HE.out]; exact HXN.out, by rw [HE.out]; exact HON.out, HFN.out⟩
end Go.Proofs.YtfblnomkafimhaaGreat.Fow
