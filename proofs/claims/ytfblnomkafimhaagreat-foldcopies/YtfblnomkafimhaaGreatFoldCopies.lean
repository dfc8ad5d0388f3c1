/- For every view and list of records, FoldCopies returns true and leaves its arguments as they were. Conditions: none. -/
import Derived.Test.YtfblnomkafimhaaGreatRows
import Derived.Test.YtfblnomkafimhaaGreatG17
import Derived.Test.YtfblnomkafimhaaGreatG32
import Derived.Test.YtfblnomkafimhaaGreatG33
import Derived.Test.YtfblnomkafimhaaGreatG48
import Derived.Lib.SmallJoins
import Derived.WalkKit
import Derived.ProofKit
import Derived.OpenShut
import Derived.Laws.Cover2
import Derived.SizedLaws
import Derived.JoinedCond
import Derived.Carry
set_option linter.unusedSimpArgs false
set_option linter.unusedVariables false
namespace Go.Proofs.YtfblnomkafimhaaGreat.Fow
set_option maxRecDepth 20000
open Go.RowKit
open Chg Vw Cl Bk Lg Fo Clw Bkw
open Lgw (rvv Rx KR Sr Elv elv_at)
open Chgw (hat hbe vw ret_bool ret_i64 Vx)
open Rg (bal)

/-- a block that may be written to -/
def Blk (W : World) (base : Nat) (T : TypeId) (k : Nat) (A : Option Addr) (n : Nat) : Prop := 0 < n → ∃ g cur, A = some ⟨g, 0, none⟩ ∧ base ≤ g ∧ W.heap[g]? = some (.cells cur T) ∧ n * k ≤ cur.size
/-- the slices in a row's elements -/
def Hdr (W : World) (A : Option Addr) (xs : List ((Nat × Nat) × Sl)) : Prop := ∀ (i : Nat) x, xs[i]? = some x → ∃ g, A = some ⟨g, 0, none⟩ ∧ W.cell? ⟨g, i * 3 + 2, none⟩ = some (.slice x.2.a x.2.n x.2.c)
theorem heap_set_any {W : World} {g g' o : Nat} {u : Value} {cur : Array Value} {T : TypeId} (h : W.heap[g]? = some (.cells cur T)) : ∃ cur2, (W.setCell ⟨g', o, none⟩ u).heap[g]? = some (.cells cur2 T) ∧ cur2.size = cur.size := by
  by_cases e : g = g'
  · subst e
    exact ⟨_, heap_setCell_same _ _ _ _ _ _ h, by simp⟩
  · exact ⟨cur, (Below.heap_setCell W ⟨g', o, none⟩ u g e).trans h, rfl⟩
theorem Blk.store {W : World} {base : Nat} {T : TypeId} {k : Nat} {A : Option Addr} {n : Nat} (h : Blk W base T k A n) (g' o : Nat) (u : Value) : Blk (W.setCell ⟨g', o, none⟩ u) base T k A n := fun hn => by
  obtain ⟨g, cur, e, hb, hh, hs⟩ := h hn
  obtain ⟨cur2, h2, hs2⟩ := heap_set_any (g' := g') (o := o) (u := u) hh
  exact ⟨g, cur2, e, hb, h2, by rw [hs2]; exact hs⟩
theorem Blk.at {W : World} {base : Nat} {T : TypeId} {k : Nat} {A : Option Addr} {n : Nat} (h : Blk W base T k A n) {j o : Nat} (hj : j < n) (ho : o < k) : ∃ g u, A = some ⟨g, 0, none⟩ ∧ base ≤ g ∧ (∃ cur, W.heap[g]? = some (.cells cur T)) ∧ W.cell? ⟨g, j * k + o, none⟩ = some u ∧ W.frozen? ⟨g, j * k + o, none⟩ = false := by
  obtain ⟨g, cur, e, hb, hh, hs⟩ := h (by omega)
  have hk : j * k + k ≤ n * k := by
    have := Nat.mul_le_mul_right k (show j + 1 ≤ n by omega)
    rw [Nat.add_mul, Nat.one_mul] at this
    exact this
  exact ⟨g, _, e, hb, ⟨cur, hh⟩, by rw [cell_of_row _ _ _ _ _ _ hh, Array.getElem?_eq_getElem (by omega)], frozen_of_row W g _ _ _ hh⟩
/-- a copy, as it is written over -/
structure Cp (W : World) (base gc : Nat) (s : St) (b c i : Sl) (xs ys : List ((Nat × Nat) × Sl)) : Prop where
  x : Sx W gc s b c i
  bb : Blk W base 69 3 b.a b.n
  bh : Hdr W b.a xs
  be : ∀ x ∈ xs, Blk W base 58 4 x.2.a x.2.n
  cb : Blk W base 71 3 c.a c.n
  ch : Hdr W c.a ys
  ce : ∀ x ∈ ys, Blk W base 53 3 x.2.a x.2.n
  ib : Blk W base 73 4 i.a i.n
  bn : b.n = xs.length
  cn : c.n = ys.length
theorem blk_own {α : Type} {K : Kind α} {W : World} {base : Nat} {A : Option Addr} {n c : Nat} {l : List α} (h : Rg.OwnG K W base A n c l) : Blk W base K.T K.k A n := fun hn => by
  obtain ⟨g, rfl, _⟩ := h.at0 hn
  obtain ⟨hb, hnc, _, cur, hh, hs, _⟩ := h.row
  exact ⟨g, cur, rfl, hb, hh, by rw [hs]; exact Nat.mul_le_mul_right _ hnc⟩
theorem hdr_own {K : Kind ((Nat × Nat) × Sl)} (hK : K.cells = cellsKB) (hk : K.k = 3) {W : World} {base : Nat} {A : Option Addr} {n c : Nat} {xs : List ((Nat × Nat) × Sl)} (h : Rg.OwnG K W base A n c xs) : Hdr W A xs := fun i x hx => by
  obtain ⟨g, rfl, _⟩ := h.at0 (by rw [h.1]; have := lt_of_get hx; omega)
  obtain ⟨b, o, e, _, hc⟩ := h.rs (by have := lt_of_get hx; omega)
  simp only [Option.some.injEq, Addr.mk.injEq] at e
  obtain ⟨rfl, rfl, -⟩ := e
  have := hc i x hx 2 (.slice x.2.a x.2.n x.2.c) (by rw [hK]; rfl)
  rw [hk, Nat.zero_add] at this
  exact ⟨g, rfl, this⟩
theorem Cp.ofOrs {W : World} {base gc : Nat} {s : St} {b c i : Sl} {xs ys : List ((Nat × Nat) × Sl)} (h : Ors W base s b c i xs ys) (hx : Sx W gc s b c i) : Cp W base gc s b c i xs ys where
  x := hx
  bb := blk_own h.1.1
  bh := hdr_own rfl rfl h.1.1
  be := fun x hx => by
    obtain ⟨j, hj⟩ := List.getElem?_of_mem hx
    have hl : j < s.books.length := by rw [← h.1.2.1]; exact lt_of_get hj
    exact blk_own (ownG_E (h.1.2.2 j x _ hj (List.getElem?_eq_getElem hl)).2)
  cb := blk_own h.2.1.1
  ch := hdr_own rfl rfl h.2.1.1
  ce := fun x hx => by
    obtain ⟨j, hj⟩ := List.getElem?_of_mem hx
    have hl : j < s.cells.length := by rw [← h.2.1.2.1]; exact lt_of_get hj
    exact blk_own (h.2.1.2.2 j x _ hj (List.getElem?_eq_getElem hl)).2
  ib := blk_own h.2.2
  bn := h.1.1.1
  cn := h.2.1.1.1
theorem Cp.store {W : World} {base gc : Nat} {s : St} {b c i : Sl} {xs ys : List ((Nat × Nat) × Sl)} (h : Cp W base gc s b c i xs ys) {g' o : Nat} {cur : Array Value} {T : TypeId} (hg : W.heap[g']? = some (.cells cur T)) (hS : T ≠ 28) (ho : T = 69 ∨ T = 71 → ∀ i, i * 3 + 2 ≠ o) (u : Value) : Cp (W.setCell ⟨g', o, none⟩ u) base gc s b c i xs ys := by
  have hdr : ∀ {A : Option Addr} {n : Nat} {zs : List ((Nat × Nat) × Sl)} {T2 : TypeId}, Hdr W A zs → Blk W base T2 3 A n → (T2 = 69 ∨ T2 = 71) → n = zs.length → Hdr (W.setCell ⟨g', o, none⟩ u) A zs := fun {A n zs T2} hh hb hT hn i x hx => by
    obtain ⟨g, e, hc⟩ := hh i x hx
    refine ⟨g, e, ?_⟩
    rw [World.cell?_setCell_other _ _ _ _ (fun e2 => ?_)]
    · exact hc
    · obtain ⟨g2, cur2, e3, _, h2, _⟩ := hb (by rw [hn]; have := lt_of_get hx; omega)
      rw [e] at e3
      simp only [Option.some.injEq, Addr.mk.injEq] at e3
      simp only [Addr.mk.injEq] at e2
      have hgg : g' = g := e2.1
      have hoo : o = i * 3 + 2 := e2.2.1
      rw [← e3.1, ← hgg, hg] at h2
      simp only [Option.some.injEq, Obj.cells.injEq] at h2
      exact ho (by rw [h2.2.1]; exact hT) i hoo.symm
  exact {
    x := Sx.other h.x (fun e => by
      have h1 := h.x
      have e' : gc = g' := e
      unfold Sx at h1
      rw [e', hg] at h1
      simp only [Option.some.injEq, Obj.cells.injEq] at h1
      exact hS h1.2.1) u
    bb := h.bb.store g' o u
    bh := hdr h.bh h.bb (Or.inl rfl) h.bn
    be := fun x hx => (h.be x hx).store g' o u
    cb := h.cb.store g' o u
    ch := hdr h.ch h.cb (Or.inr rfl) h.cn
    ce := fun x hx => (h.ce x hx).store g' o u
    ib := h.ib.store g' o u
    bn := h.bn
    cn := h.cn }
end Go.Proofs.YtfblnomkafimhaaGreat.Fow

namespace Go.Proofs.YtfblnomkafimhaaGreat.foldCopies
set_option maxRecDepth 20000
open Go.RowKit
open Chg Vw Cl Bk Lg Fo Clw Bkw Fow
open Lgw (rvv Rx KR Sr Elv elv_at)
open Chgw (hat hbe vw ret_bool ret_i64 Vx)
open Rg (bal)

set_option maxHeartbeats 8000000 in
theorem walk (w : World) (a : Int) (_ : (Lit.int .i64 a).wf = true) (d : Int) (_ : (Lit.int .i64 d).wf = true) (A : Option Addr) (n c : Nat) (l : List R) (hs : Sr w A n c l) (hwf : ∀ r ∈ l, WfE r.e) :
    Calls Tryz.prog 8 #[.agg #[.int .i64 a, .int .i64 d], .slice A n c] w fun e w' => e = .returned (.bool true) ∧ Below w.heap.size w w' := by
  have hsf := Lgw.store_flt
  have HS := Lib.hid hs; have HWE := Lib.hid hwf
  have HN := Lib.hid hs.1
  clear hs hwf
  go_enter Tryz.func8, Tryz.ntmps8
  go_upto_region 1 with (fail)
  have HV := Lib.hid (show (w.alloc (.cells #[.int .i64 a, .int .i64 d] 26)).heap[w.heap.size]? = some (.cells #[.int .i64 a, .int .i64 d] 26) from hat _ _ _ rfl)
  have HB := Lib.hid (bal (Below.refl w.heap.size w) (Nat.le_refl _) (.cells #[.int .i64 a, .int .i64 d] 26))
  generalize w.alloc (.cells #[.int .i64 a, .int .i64 d] 26) = w1 at HV HB ⊢
  generalize hgx : w.heap.size = gv at HV ⊢
  have HGV := Lib.hid hgx; clear hgx
  go_upto_region 3 with (refine (fold_alive_c w1).mono ?_; rintro e w2 ⟨rfl, hb2⟩)
  have HV := Lib.hid ((hb2.block _ (Array.getElem?_eq_some_iff.1 HV.out).1).trans HV.out)
  have HB := Lib.hid (HB.out.trans (hb2.mono HB.out.size)); clear hb2
  by_cases h60 : 60 < n
  · go_wp2
    go_ret
    exact ⟨rfl, HB.out⟩
  obtain ⟨v0, v1⟩ := cells2 HV.out
  have HRI := Lib.hid (right_w a d A n c l w2 (HS.out.all HB.out))
  go_wp2_with fail
  refine HRI.out.mono ?_
  rintro e w3 ⟨rfl, hb3⟩
  have HV := Lib.hid ((hb3.block _ (Array.getElem?_eq_some_iff.1 HV.out).1).trans HV.out)
  have HB := Lib.hid (HB.out.trans (hb3.mono HB.out.size)); clear hb3 v0 v1 HRI
  cases hr : (l.all rightR && Chgw.rightB a d) with
  | false =>
    go_wp2
    go_ret
    exact ⟨rfl, HB.out⟩
  | true =>
  rw [Bool.and_eq_true] at hr
  obtain ⟨v, rfl, rfl, hv⟩ := right_v64 hr.2
  have HOK := Lib.hid (ok_all hr.1 HWE.out)
  have HV64 := Lib.hid hv
  clear hr hv
  obtain ⟨v0, v1⟩ := cells2 HV.out
  have HOF := Lib.hid (fof_c v HV64.out A n c l w3 (HS.out.all HB.out) HOK.out)
  unfold vw at HOF
  go_wp2_with fail
  refine HOF.out.mono ?_
  rintro e w4 ⟨b0, c0, i0, xs0, ys0, rfl, ho, hb4⟩
  have HO := Lib.hid (ho.base HB.out.size)
  have HB := Lib.hid (HB.out.trans (hb4.mono HB.out.size)); clear ho v0 v1 HOF
  have HV4 := Lib.hid ((hb4.block _ (Array.getElem?_eq_some_iff.1 HV.out).1).trans HV.out); clear hb4 HV
  have HWF := Lib.hid (wf_of HV64.out HOK.out)
  have HEQ := Lib.hid (of_eq HV64.out HOK.out)
  have HOF2 := Lib.hid (fun W hW => of_o v HV64.out A n c l W (HS.out.all hW) HOK.out)
  rw [← HEQ.out] at HOF2
  clear HEQ
  generalize ofS v l = s at HO HWF HOF2 ⊢
  have HST := Lib.hid (HO.out.stoW HWF.out)
  clear HO
  unfold stv
  go_upto_region 6 with (fail)
  have HV := Lib.hid (show (w4.alloc (.cells #[.slice b0.a b0.n b0.c, .slice c0.a c0.n c0.c, .slice i0.a i0.n i0.c, .int .i64 (s.held.1 : Int), .int .i64 (s.held.2 : Int), .int .i64 s.inc, .int .i64 s.last] 28)).heap[gv]? = some (.cells #[.int .i64 (v.1 : Int), .int .i64 (v.2 : Int)] 26) from hbe HV4.out)
  have HX := Lib.hid (show Sx (w4.alloc (.cells #[.slice b0.a b0.n b0.c, .slice c0.a c0.n c0.c, .slice i0.a i0.n i0.c, .int .i64 (s.held.1 : Int), .int .i64 (s.held.2 : Int), .int .i64 s.inc, .int .i64 s.last] 28)) w4.heap.size s b0 c0 i0 from hat _ _ _ rfl)
  have hbx := bal (Below.refl w4.heap.size w4) (Nat.le_refl _) (.cells #[.slice b0.a b0.n b0.c, .slice c0.a c0.n c0.c, .slice i0.a i0.n i0.c, .int .i64 (s.held.1 : Int), .int .i64 (s.held.2 : Int), .int .i64 s.inc, .int .i64 s.last] 28)
  have HST := Lib.hid (HST.out.all hbx); have HB := Lib.hid (HB.out.trans (hbx.mono HB.out.size))
  clear hbx HV4
  generalize w4.alloc (.cells #[.slice b0.a b0.n b0.c, .slice c0.a c0.n c0.c, .slice i0.a i0.n i0.c, .int .i64 (s.held.1 : Int), .int .i64 (s.held.2 : Int), .int .i64 s.inc, .int .i64 s.last] 28) = w5 at HX HV HST HB ⊢
  generalize w4.heap.size = gs at HX ⊢
  have HCP := Lib.hid (copy_c s b0 c0 i0 w5 HST.out HWF.out)
  unfold stv at HCP
  obtain ⟨z0, z1, z2, z3, z4, z5, z6⟩ := HX.out.cs
  go_wp2_with fail
  refine HCP.out.mono ?_
  rintro e w6 ⟨b, c1, i, xs, ys, rfl, ho, hb6⟩
  have HO := Lib.hid ho; have HC := Lib.hid hb6; have HGC := Lib.hid hb6.size
  clear ho hb6 z0 z1 z2 z3 z4 z5 z6 HCP
  unfold stv
  go_upto_region 7 with (fail)
  have HT := Lib.hid (show Sx (w6.alloc (.cells #[.slice b.a b.n b.c, .slice c1.a c1.n c1.c, .slice i.a i.n i.c, .int .i64 (s.held.1 : Int), .int .i64 (s.held.2 : Int), .int .i64 s.inc, .int .i64 s.last] 28)) w6.heap.size s b c1 i from hat _ _ _ rfl)
  have hbx := bal (Below.refl w6.heap.size w6) (Nat.le_refl _) (.cells #[.slice b.a b.n b.c, .slice c1.a c1.n c1.c, .slice i.a i.n i.c, .int .i64 (s.held.1 : Int), .int .i64 (s.held.2 : Int), .int .i64 s.inc, .int .i64 s.last] 28)
  have HO := Lib.hid (HO.out.below hbx); have HC := Lib.hid (HC.out.trans (hbx.mono HC.out.size))
  clear hbx
  generalize w6.alloc (.cells #[.slice b.a b.n b.c, .slice c1.a c1.n c1.c, .slice i.a i.n i.c, .int .i64 (s.held.1 : Int), .int .i64 (s.held.2 : Int), .int .i64 s.inc, .int .i64 s.last] 28) = w7 at HT HO HC ⊢
  generalize w6.heap.size = gc at HT HGC ⊢
  have HSA := Lib.hid (same_c s b c1 i s b0 c0 i0 w7 (HO.out.stoW HWF.out) (HST.out.all HC.out) HWF.out)
  rw [sameS_refl] at HSA
  unfold stv at HSA
  obtain ⟨z0, z1, z2, z3, z4, z5, z6⟩ := HT.out.cs
  have HX7 := Lib.hid (HX.out.all HC.out)
  obtain ⟨q0, q1, q2, q3, q4, q5, q6⟩ := HX7.out.cs
  go_wp2_with fail
  refine HSA.out.mono ?_
  rintro e w8 ⟨rfl, hb8⟩
  have HO := Lib.hid (HO.out.below hb8); have HT := Lib.hid (HT.out.all hb8); have HC := Lib.hid (HC.out.trans (hb8.mono HC.out.size))
  clear hb8 HSA z0 z1 z2 z3 z4 z5 z6 q0 q1 q2 q3 q4 q5 q6 HX7
  go_upto_region 9 with (fail)
  have HCO := Lib.hid (Cp.ofOrs HO.out HT.out)
  have hbl : b.n ≤ 4096 ∧ c1.n ≤ 4096 ∧ i.n ≤ 4096 := ⟨by rw [HO.out.1.1.1, HO.out.1.2.1]; exact sd_len HWF.out.sb HWF.out.ab, by rw [HO.out.2.1.1.1, HO.out.2.1.2.1]; exact sd_len HWF.out.sc HWF.out.ac, by rw [HO.out.2.2.1]; exact sd_len HWF.out.si HWF.out.ai⟩
  have hnb : (∀ x ∈ xs, x.2.n ≤ 140737488355328) ∧ ∀ x ∈ ys, x.2.n ≤ 140737488355328 := ⟨fun x hx => by
    obtain ⟨j, hj⟩ := List.getElem?_of_mem hx
    have hl : j < s.books.length := by rw [← HO.out.1.2.1]; exact lt_of_get hj
    have h1 := (HO.out.1.2.2 j x _ hj (List.getElem?_eq_getElem hl)).2.1
    have h2 := book_lenF (HWF.out.bk _ (List.getElem_mem hl)).1
    omega, fun x hx => by
    obtain ⟨j, hj⟩ := List.getElem?_of_mem hx
    have hl : j < s.cells.length := by rw [← HO.out.2.1.2.1]; exact lt_of_get hj
    have h1 := (HO.out.2.1.2.2 j x _ hj (List.getElem?_eq_getElem hl)).2.1
    have h2 := cl_len (HWF.out.cl _ (List.getElem_mem hl)).1
    omega⟩
  clear HO HT
  have HNB := Lib.hid hnb
  have HBL := Lib.hid hbl
  clear hnb hbl
  obtain ⟨ba, bn, bc⟩ := b
  obtain ⟨ca, cn, cc⟩ := c1
  obtain ⟨ia, inn, ic⟩ := i
  simp only at HBL
  have hl1 : bn ≤ 4096 := HBL.out.1
  have hl2 : cn ≤ 4096 := HBL.out.2.1
  have hl3 : inn ≤ 4096 := HBL.out.2.2
  clear HBL
  obtain ⟨z0, z1, z2, z3, z4, z5, z6⟩ := HCO.out.x.cs
  go_wp2
  go_loopw [35] (fun ix wr => ∃ k : Nat, ix = .int .i64 k ∧ k ≤ bn ∧ Cp wr w5.heap.size gc s ⟨ba, bn, bc⟩ ⟨ca, cn, cc⟩ ⟨ia, inn, ic⟩ xs ys ∧ Below w5.heap.size w5 wr) (fun ix _ => bn - (intOf ix).toNat)
  case atStart => exact ⟨0, rfl, by omega, HCO.out, HC.out⟩
  case round =>
    clear HCO HC z0 z1 z2 z3 z4 z5 z6
    rename World => waB
    obtain ⟨kB, rfl, hk, hco, hc⟩ := hrel
    have HCO := Lib.hid hco; have HC := Lib.hid hc; clear hco hc
    by_cases h : kB < bn
    · have hkx : kB < xs.length := by have h1 := HCO.out.bn; simp only at h1; omega
      have hz : xs[kB]? = some xs[kB] := List.getElem?_eq_getElem hkx
      obtain ⟨gB, hga, hcl⟩ := HCO.out.bh kB _ hz
      have hm := HNB.out.1 _ (List.getElem_mem hkx)
      have HZX := Lib.hid hz
      generalize xs[kB] = x at hcl hm HZX
      simp only at hga
      subst hga
      obtain ⟨xv, ⟨xa, xn, xc⟩⟩ := x
      simp only at hcl hm
      clear hz hkx
      obtain ⟨z0, z1, z2, z3, z4, z5, z6⟩ := HCO.out.x.cs
      go_wp2
      go_loopw [45] (fun jx ws => ∃ j : Nat, jx = .int .i64 j ∧ j ≤ xn ∧ Cp ws w5.heap.size gc s ⟨(some ⟨gB, 0, none⟩), bn, bc⟩ ⟨ca, cn, cc⟩ ⟨ia, inn, ic⟩ xs ys ∧ Below w5.heap.size w5 ws) (fun jx _ => xn - (intOf jx).toNat)
      case atStart => exact ⟨0, rfl, by omega, HCO.out, HC.out⟩
      case round =>
        clear HCO HC z0 z1 z2 z3 z4 z5 z6 hcl
        rename World => wbB
        obtain ⟨j, rfl, hj, hco, hc⟩ := hrel
        have HCO := Lib.hid hco; have HC := Lib.hid hc; clear hco hc
        obtain ⟨z0, z1, z2, z3, z4, z5, z6⟩ := HCO.out.x.cs
        by_cases h2 : j < xn
        · obtain ⟨g2, hga2, hcl⟩ := HCO.out.bh kB _ HZX.out
          simp only [Option.some.injEq, Addr.mk.injEq] at hga2
          obtain ⟨rfl, -, -⟩ := hga2
          simp only at hcl
          obtain ⟨gE, u, hge, hgb, hgh, hcell, hfz⟩ := (HCO.out.be _ (List.mem_of_getElem? HZX.out)).at (o := 0) h2 (by omega)
          simp only at hge
          subst hge
          rw [Nat.add_zero] at hcell hfz
          obtain ⟨cur, hh⟩ := hgh
          have HCO2 := Lib.hid (HCO.out.store (o := j * 4) hh (by decide) (fun h => absurd h (by decide)) (.int .i64 77))
          have HC2 := Lib.hid (HC.out.setCell (p := ⟨gE, j * 4, none⟩) hgb (.int .i64 77))
          clear hh hgb
          go_wp2
          exact ⟨⟨j + 1, by go_num, by omega, HCO2.out, HC2.out⟩, by simp [intOf]; omega⟩
        · obtain rfl : j = xn := by omega
          obtain ⟨g2, u, hge, hgb, hgh, hcell, hfz⟩ := HCO.out.bb.at (j := kB) (o := 0) h (by omega)
          simp only [Option.some.injEq, Addr.mk.injEq] at hge
          obtain ⟨rfl, -, -⟩ := hge
          rw [Nat.add_zero] at hcell hfz
          obtain ⟨cur, hh⟩ := hgh
          have HCO2 := Lib.hid (HCO.out.store (o := kB * 3) hh (by decide) (fun _ i => by omega) (.int .i64 77))
          have HC2 := Lib.hid (HC.out.setCell (p := ⟨gB, kB * 3, none⟩) hgb (.int .i64 77))
          clear hh hgb
          go_wp2
          exact ⟨⟨kB + 1, by go_num, by omega, HCO2.out, HC2.out⟩, by simp [intOf]; omega⟩
    · have hkn : kB = bn := by omega
      have hnlt : ¬ ((kB : Int) < (bn : Int)) := by omega
      clear hkn h hk
      obtain ⟨z0, z1, z2, z3, z4, z5, z6⟩ := HCO.out.x.cs
      go_wp2
      clear hnlt
      go_loopw [68] (fun ix wr => ∃ k : Nat, ix = .int .i64 k ∧ k ≤ cn ∧ Cp wr w5.heap.size gc s ⟨ba, bn, bc⟩ ⟨ca, cn, cc⟩ ⟨ia, inn, ic⟩ xs ys ∧ Below w5.heap.size w5 wr) (fun ix _ => cn - (intOf ix).toNat)
      case atStart => exact ⟨0, rfl, by omega, HCO.out, HC.out⟩
      case round =>
        clear HCO HC z0 z1 z2 z3 z4 z5 z6
        rename World => waC
        obtain ⟨kC, rfl, hk, hco, hc⟩ := hrel
        have HCO := Lib.hid hco; have HC := Lib.hid hc; clear hco hc
        by_cases h : kC < cn
        · have hkx : kC < ys.length := by have h1 := HCO.out.cn; simp only at h1; omega
          have hz : ys[kC]? = some ys[kC] := List.getElem?_eq_getElem hkx
          obtain ⟨gB, hga, hcl⟩ := HCO.out.ch kC _ hz
          have hm := HNB.out.2 _ (List.getElem_mem hkx)
          have HZX := Lib.hid hz
          generalize ys[kC] = x at hcl hm HZX
          simp only at hga
          subst hga
          obtain ⟨xv, ⟨xa, xn, xc⟩⟩ := x
          simp only at hcl hm
          clear hz hkx
          obtain ⟨z0, z1, z2, z3, z4, z5, z6⟩ := HCO.out.x.cs
          go_wp2
          go_loopw [78] (fun jx ws => ∃ j : Nat, jx = .int .i64 j ∧ j ≤ xn ∧ Cp ws w5.heap.size gc s ⟨ba, bn, bc⟩ ⟨(some ⟨gB, 0, none⟩), cn, cc⟩ ⟨ia, inn, ic⟩ xs ys ∧ Below w5.heap.size w5 ws) (fun jx _ => xn - (intOf jx).toNat)
          case atStart => exact ⟨0, rfl, by omega, HCO.out, HC.out⟩
          case round =>
            clear HCO HC z0 z1 z2 z3 z4 z5 z6 hcl
            rename World => wbC
            obtain ⟨j, rfl, hj, hco, hc⟩ := hrel
            have HCO := Lib.hid hco; have HC := Lib.hid hc; clear hco hc
            obtain ⟨z0, z1, z2, z3, z4, z5, z6⟩ := HCO.out.x.cs
            by_cases h2 : j < xn
            · obtain ⟨g2, hga2, hcl⟩ := HCO.out.ch kC _ HZX.out
              simp only [Option.some.injEq, Addr.mk.injEq] at hga2
              obtain ⟨rfl, -, -⟩ := hga2
              simp only at hcl
              obtain ⟨gE, u, hge, hgb, hgh, hcell, hfz⟩ := (HCO.out.ce _ (List.mem_of_getElem? HZX.out)).at (o := 0) h2 (by omega)
              simp only at hge
              subst hge
              rw [Nat.add_zero] at hcell hfz
              obtain ⟨cur, hh⟩ := hgh
              have HCO2 := Lib.hid (HCO.out.store (o := j * 3) hh (by decide) (fun h => absurd h (by decide)) (.int .i64 77))
              have HC2 := Lib.hid (HC.out.setCell (p := ⟨gE, j * 3, none⟩) hgb (.int .i64 77))
              clear hh hgb
              go_wp2
              exact ⟨⟨j + 1, by go_num, by omega, HCO2.out, HC2.out⟩, by simp [intOf]; omega⟩
            · obtain rfl : j = xn := by omega
              go_wp2
              exact ⟨⟨kC + 1, by go_num, by omega, HCO.out, HC.out⟩, by simp [intOf]; omega⟩
        · have hkn : kC = cn := by omega
          have hnlt : ¬ ((kC : Int) < (cn : Int)) := by omega
          clear hkn h hk
          obtain ⟨z0, z1, z2, z3, z4, z5, z6⟩ := HCO.out.x.cs
          go_wp2
          clear hnlt
          go_loopw [95] (fun ix wr => ∃ k : Nat, ix = .int .i64 k ∧ k ≤ inn ∧ Cp wr w5.heap.size gc s ⟨ba, bn, bc⟩ ⟨ca, cn, cc⟩ ⟨ia, inn, ic⟩ xs ys ∧ Below w5.heap.size w5 wr) (fun ix _ => inn - (intOf ix).toNat)
          case atStart => exact ⟨0, rfl, by omega, HCO.out, HC.out⟩
          case round =>
            clear HCO HC z0 z1 z2 z3 z4 z5 z6
            rename World => wi
            obtain ⟨k, rfl, hk, hco, hc⟩ := hrel
            have HCO := Lib.hid hco; have HC := Lib.hid hc; clear hco hc
            obtain ⟨z0, z1, z2, z3, z4, z5, z6⟩ := HCO.out.x.cs
            by_cases h : k < inn
            · obtain ⟨gI, u, hge, hgb, hgh, hcell, hfz⟩ := HCO.out.ib.at (j := k) (o := 3) h (by omega)
              simp only at hge
              subst hge
              obtain ⟨cur, hh⟩ := hgh
              have HCO2 := Lib.hid (HCO.out.store (o := k * 4 + 3) hh (by decide) (fun h => absurd h (by decide)) (.int .i64 77))
              have HC2 := Lib.hid (HC.out.setCell (p := ⟨gI, k * 4 + 3, none⟩) hgb (.int .i64 77))
              clear hh hgb
              go_wp2
              exact ⟨⟨k + 1, by go_num, by omega, HCO2.out, HC2.out⟩, by simp [intOf]; omega⟩
            · have hnlt : ¬ ((k : Int) < (inn : Int)) := by omega
              clear h hk
              have HXW : Hid (∀ W, Below w5.heap.size w5 W → (W.cell? ⟨gs, 0, none⟩ = some (.slice b0.a b0.n b0.c) ∧ W.cell? ⟨gs, 1, none⟩ = some (.slice c0.a c0.n c0.c) ∧ W.cell? ⟨gs, 2, none⟩ = some (.slice i0.a i0.n i0.c) ∧ W.cell? ⟨gs, 3, none⟩ = some (.int .i64 (s.held.1 : Int)) ∧ W.cell? ⟨gs, 4, none⟩ = some (.int .i64 (s.held.2 : Int)) ∧ W.cell? ⟨gs, 5, none⟩ = some (.int .i64 s.inc) ∧ W.cell? ⟨gs, 6, none⟩ = some (.int .i64 s.last)) ∧ W.cell? ⟨gv, 0, none⟩ = some (.int .i64 (v.1 : Int)) ∧ W.cell? ⟨gv, 1, none⟩ = some (.int .i64 (v.2 : Int))) := Lib.hid (fun W hW => ⟨(HX.out.all hW).cs, cells2 ((hW.block _ (Array.getElem?_eq_some_iff.1 HV.out).1).trans HV.out)⟩)
              clear z0 z1 z2 z3 z4 z5 z6 HCO HNB
              go_upto_region 33 with (fail)
              refine wp_region_held_drew (S := fun W' => Below w5.heap.size w5 W') (by kernel_rfl) HC.out.drew (fun hHeld => ?_)
              clear HC
              generalize wi.drew = x5 at hHeld ⊢
              have HC : Hid (Below w5.heap.size w5 x5) := hHeld
              clear hHeld
              refine take_in (i := 0) (oi := ⟨_, _, _, _, _, _⟩) (v := ?_) rfl (by kernel_rfl) (by kernel_rfl) (by kernel_rfl) (fun _ _ _ h => h) (by rfl) ?_ HC.out ?_
              rotate_left
              · intro W hW; obtain ⟨⟨z0, z1, z2, z3, z4, z5, z6⟩, y0, y1⟩ := HXW.out W hW; go_simp; with_reducible rfl
              simp only [Act.put, List.setIfInBounds_toArray, List.set_cons_zero, List.set_cons_succ]
              refine take_in (i := 1) (oi := ⟨_, _, _, _, _, _⟩) (v := ?_) rfl (by kernel_rfl) (by kernel_rfl) (by kernel_rfl) (fun _ _ _ h => h) (by rfl) ?_ HC.out ?_
              rotate_left
              · intro W hW; obtain ⟨⟨z0, z1, z2, z3, z4, z5, z6⟩, y0, y1⟩ := HXW.out W hW; go_simp; with_reducible rfl
              simp only [Act.put, List.setIfInBounds_toArray, List.set_cons_zero, List.set_cons_succ]
              refine take_in (i := 2) (oi := ⟨_, _, _, _, _, _⟩) (v := ?_) rfl (by kernel_rfl) (by kernel_rfl) (by kernel_rfl) (fun _ _ _ h => h) (by rfl) ?_ HC.out ?_
              rotate_left
              · intro W hW; obtain ⟨⟨z0, z1, z2, z3, z4, z5, z6⟩, y0, y1⟩ := HXW.out W hW; go_simp; with_reducible rfl
              simp only [Act.put, List.setIfInBounds_toArray, List.set_cons_zero, List.set_cons_succ]
              refine wpAnyH_ready (rs := [3]) (by kernel_rfl) (by simp) ?_
              refine AllReadyH.cons (o := ⟨_, _, _, _, _, _⟩) rfl (fun K hK => ?_) AllReadyH.nil
              go_simp
              refine (HOF2.out x5 (HB.out.trans (HC.out.mono HB.out.size))).mono ?_
              rintro e x6 ⟨b9, c9, i9, rfl, hst, hb_⟩
              have HST9 := Lib.hid hst; clear hst
              have HC := Lib.hid (HC.out.trans (hb_.mono HC.out.size)); clear hb_
              refine hK.out _ _ HC.out (fun hS_ => ?_)
              clear hK K hS_
              unfold stv
              have HSO := Lib.hid (same_o s s b0 c0 i0 b9 c9 i9 x6 (HST.out.all HC.out) HST9.out)
              rw [sameS_refl] at HSO
              unfold stv at HSO
              refine wpAnyH_ready (rs := [4]) (by kernel_rfl) (by simp) ?_
              refine AllReadyH.cons (o := ⟨_, _, _, _, _, _⟩) rfl (fun K hK => ?_) AllReadyH.nil
              go_simp
              refine HSO.out.mono ?_
              rintro e x7 ⟨rfl, hb_⟩
              have HC := Lib.hid (HC.out.trans (hb_.mono HC.out.size)); clear hb_
              refine hK.out _ _ HC.out (fun hS_ => ?_)
              clear hK K hS_
              refine take_in (i := 5) (oi := ⟨_, _, _, _, _, _⟩) (v := ?_) rfl (by kernel_rfl) (by kernel_rfl) (by kernel_rfl) (fun _ _ _ h => h) (by rfl) ?_ HC.out ?_
              rotate_left
              · intro W hW; go_simp; with_reducible rfl
              simp only [Act.put, List.setIfInBounds_toArray, List.set_cons_zero, List.set_cons_succ]
              refine wpAnyH_done (by kernel_rfl) ?_ _
              go_wp2
              go_ret
              exact ⟨rfl, HB.out.trans (HC.out.mono HB.out.size)⟩
end Go.Proofs.YtfblnomkafimhaaGreat.foldCopies

namespace Go.Proofs.YtfblnomkafimhaaGreat
set_option maxRecDepth 20000
open Go.ChangeShapes Go.WideShapes Go.ChangeAt Go.RowKit

theorem open_i64 {H : Type} {enc : TypeId × Value → H} {W : World} {b0 : Nat} {t e : TypeId} {v : Value} {d : DataW H} {p : List MemPlace} (ht : Tryz.prog.underlying t = some (.slice e)) (he : Tryz.prog.underlying e = some (.int .i64)) (hc : Tryz.prog.cellsOf e = 1)
    (hval : Value.okWide Tryz.prog W .any b0 t v) (h : DataW.Trod enc Tryz.prog W 0 (fun _ => true) true t v d p) (hlt : ∀ x ∈ p, x.block < W.heap.size) :
    ∃ A n c, ∃ zs : List Int, v = .slice A n c ∧ n = zs.length ∧ n ≤ c ∧ Rd W W.heap.size A (zs.map (Value.int .i64)) ∧ (∀ z ∈ zs, (Lit.int .i64 z).wf = true) ∧ Places d c := by
  obtain ⟨A, n, c, zs, hv, hn, hnc, _, hr, hw, hd⟩ := open_zs ht he hc hval h hlt
  exact ⟨A, n, c, zs, hv, hn, hnc, hr, hw, hd⟩

theorem open_view {H : Type} {enc : TypeId × Value → H} {W : World} {b0 : Nat} {v : Value} {d : DataW H} {p : List MemPlace}
    (hval : Value.okWide Tryz.prog W .any b0 26 v) (h : DataW.Trod enc Tryz.prog W 0 (fun _ => true) true 26 v d p) :
    ∃ a b : Int, v = .agg #[.int .i64 a, .int .i64 b] ∧ (Lit.int .i64 a).wf = true ∧ (Lit.int .i64 b).wf = true := by
  obtain ⟨v0, v1, y0, y1, n, rfl, _, _, h0, h1⟩ := Go.Joins.open_agg2 (P := Tryz.prog) Tryz.underlying26 (by kernel_rfl) (by kernel_rfl) hval h
  obtain ⟨a, ea, _, wa⟩ := DataW.trod_int Tryz.underlying3 h0
  obtain ⟨b, eb, _, wb⟩ := DataW.trod_int Tryz.underlying3 h1
  simp only [List.cons.injEq, and_true] at ea eb
  exact ⟨a, b, by rw [ea, eb], wa, wb⟩
end Go.Proofs.YtfblnomkafimhaaGreat

namespace Go.Proofs.YtfblnomkafimhaaGreat
open Go.ChangeShapes Go.WideShapes Go.ChangeAt Go.RowKit

theorem foldCopies_own : ownKnob Tryz.prog.godebug = none := by kernel_rfl
theorem foldCopies_laid : laidOutB Tryz.prog = true := by kernel_rfl

set_option maxRecDepth 100000 in
theorem foldCopies_lifted (os : Os) (started : os.Started) (H : Type) (enc : TypeId × Value → H) :
    ReturnsInHanded {} Tryz.checked os 8 .any (Rows.foldCopiesSpec.pre6 enc Tryz.prog Tryz.f8 Rows.foldCopiesRow.domain false) (Rows.foldCopiesSpec.post enc Tryz.prog Tryz.f8 false true false false) := by
  refine returnsInHanded_of_change_sized (C := Tryz.checked) foldCopies_own started (by kernel_rfl) Tryz.func8
    (ChangeSpec.witness6 (enc := enc) (C := Tryz.checked) false ⟨#[], #[.agg #[.int .i64 0, .int .i64 0], .slice none 0 0], []⟩ 8 (by kernel_rfl) (by kernel_rfl) (by kernel_rfl) (by kernel_rfl)) ?_
  intro W base args ds gs before hval0 hW _ hsz0 _
  have hsz : (DataW.weightsEach Tryz.prog (Tryz.f8.params.toList ++ Rows.foldCopiesSpec.plain.varTypes Tryz.prog) (ds ++ gs)).all (· ≤ reachBytes) = true := hsz0
  have hval : ∀ (j : Nat) t v, Tryz.f8.params[j]? = some t → args[j]? = some v → Value.okWide Tryz.prog W .any base t v := hval0
  have hW' := hW
  obtain ⟨p, q, hA0, hV, rfl, hfz, hnd⟩ := hW
  have hA : DataW.TrodAll enc Tryz.prog W 0 (fun _ => true) true Tryz.f8.params.toList args.toList ds p := hA0
  rw [Tryz.params8] at hA hval hsz
  obtain ⟨v0, vs0, d0, ds0, p0, q0, hargs, rfl, rfl, h0, r0⟩ := trodAll_cons hA
  obtain ⟨v1, vs1, d1, ds1, p1, q1, rfl, rfl, rfl, h1, r1⟩ := trodAll_cons r0
  obtain ⟨rfl, rfl, rfl⟩ := trodAll_nil r1
  obtain rfl : args = #[v0, v1] := by cases args; simp_all
  obtain ⟨rfl, rfl⟩ := trodVars_none hV
  clear hA0 hval0
  simp only [List.append_nil] at hW'
  have hk0 := h0
  have hlt0 : ∀ x ∈ p0, x.block < W.heap.size := (fun x hx => by have := hW'.lt x (by simp [hx]); simpa using this)
  obtain ⟨a0, b0, rfl, wa0, wb0⟩ := open_view (hval 0 26 v0 rfl rfl) h0
  have hk1 := h1
  have hlt1 : ∀ x ∈ p1, x.block < W.heap.size := (fun x hx => by have := hW'.lt x (by simp [hx]); simpa using this)
  obtain ⟨A1, n1, c1, l1, rfl, hn1, hc1, hr1, hw1, hd1⟩ := open_recs Tryz.underlying40 (hval 1 40 v1 rfl rfl) h1 hlt1
  have hb1 := sized_places hsz (j := 1) rfl rfl Tryz.underlying40 hd1
  rw [show Tryz.prog.bytesOf 60 = 88 from by kernel_rfl] at hb1
  refine (foldCopies.walk W a0 wa0 b0 wb0 A1 n1 c1 l1 ⟨hn1, hc1, by omega, fun r hr => (hw1 r hr).2.2.2, hr1⟩ hw1).mono fun e W' ⟨he, hb⟩ => ?_
  subst he
  exact ⟨_, rfl, _, _, _, [], _, [], hW', trodAll_cons_mk (shut_bool Tryz.underlying4 _) trodAll_mk0, (trodAll_cons_mk (Below.trod foldCopies_laid (by kernel_rfl) (of_decide_eq_true (by kernel_rfl)) hk0 hb hlt0) (trodAll_cons_mk (Below.trod foldCopies_laid (by kernel_rfl) (of_decide_eq_true (by kernel_rfl)) hk1 hb hlt1) trodAll_mk0)), rfl, hb.frame _, fun h => by cases h⟩

theorem foldCopies_proved : Rows.FoldCopiesSaid :=
  OpenClaim.holds_of_wide 8 Tryz.f8 rfl rfl rfl rfl rfl rfl rfl ⟨rfl, rfl, rfl, rfl, rfl⟩ rfl rfl rfl rfl rfl (by kernel_rfl) Tryz.func8 (by kernel_rfl)
    (of_decide_eq_true (by kernel_rfl)) (by unfold Func.isWrapper; first | (rw [if_pos (by decide +kernel)]; kernel_rfl) | (rw [if_neg (by decide +kernel)]; exact ⟨rfl, rfl⟩))
    (fun os started H enc _ => foldCopies_lifted os started H enc)
#print axioms foldCopies_proved
end Go.Proofs.YtfblnomkafimhaaGreat
