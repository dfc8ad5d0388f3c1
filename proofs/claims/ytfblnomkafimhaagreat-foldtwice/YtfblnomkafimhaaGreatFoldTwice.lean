/- For every view and list of records, FoldTwice returns true and leaves its arguments as they were. Conditions: none. -/
import Derived.Test.YtfblnomkafimhaaGreatRows
import Derived.Test.YtfblnomkafimhaaGreatG17
import Derived.Test.YtfblnomkafimhaaGreatG48
import Derived.Lib.SmallJoins
import Derived.WalkKit
import Derived.ProofKit
import Derived.OpenShut
import Derived.Laws.Cover2
import Derived.SizedLaws
import Derived.JoinedCond
import Derived.Carry
set_option linter.unusedSimpArgs false
set_option linter.unusedVariables false
namespace Go.Proofs.YtfblnomkafimhaaGreat.foldTwice
set_option maxRecDepth 20000
open Go.RowKit
open Chg Vw Cl Bk Lg Fo Clw Bkw Fow
open Lgw (rvv Rx KR Sr Elv elv_at)
open Chgw (hat hbe vw ret_bool ret_i64 Vx)
open Rg (bal)

set_option maxHeartbeats 8000000 in
theorem walk (w : World) (a : Int) (_ : (Lit.int .i64 a).wf = true) (d : Int) (_ : (Lit.int .i64 d).wf = true) (A : Option Addr) (n c : Nat) (l : List R) (hs : Sr w A n c l) (hwf : ∀ r ∈ l, WfE r.e) :
    Calls Tryz.prog 7 #[.agg #[.int .i64 a, .int .i64 d], .slice A n c] w fun e w' => e = .returned (.bool true) ∧ Below w.heap.size w w' := by
  have hsf := Lgw.store_flt
  have HS := Lib.hid hs; have HWE := Lib.hid hwf
  have HN := Lib.hid hs.1
  clear hs hwf
  go_enter Tryz.func7, Tryz.ntmps7
  go_upto_region 1 with (fail)
  have HV := Lib.hid (show (w.alloc (.cells #[.int .i64 a, .int .i64 d] 26)).heap[w.heap.size]? = some (.cells #[.int .i64 a, .int .i64 d] 26) from hat _ _ _ rfl)
  have HB := Lib.hid (bal (Below.refl w.heap.size w) (Nat.le_refl _) (.cells #[.int .i64 a, .int .i64 d] 26))
  generalize w.alloc (.cells #[.int .i64 a, .int .i64 d] 26) = w1 at HV HB ⊢
  generalize hgx : w.heap.size = gv at HV ⊢
  have HGV := Lib.hid hgx; clear hgx
  go_upto_region 3 with (refine (fold_alive_c w1).mono ?_; rintro e w2 ⟨rfl, hb2⟩)
  have HV := Lib.hid ((hb2.block _ (Array.getElem?_eq_some_iff.1 HV.out).1).trans HV.out)
  have HB := Lib.hid (HB.out.trans (hb2.mono HB.out.size)); clear hb2
  by_cases h40 : 40 < n
  · go_wp2
    go_ret
    exact ⟨rfl, HB.out⟩
  obtain ⟨v0, v1⟩ := cells2 HV.out
  have HRI := Lib.hid (right_w a d A n c l w2 (HS.out.all HB.out))
  go_wp2_with fail
  refine HRI.out.mono ?_
  rintro e w3 ⟨rfl, hb3⟩
  have HV := Lib.hid ((hb3.block _ (Array.getElem?_eq_some_iff.1 HV.out).1).trans HV.out)
  have HB := Lib.hid (HB.out.trans (hb3.mono HB.out.size)); clear hb3 v0 v1 HRI
  cases hr : (l.all rightR && Chgw.rightB a d) with
  | false =>
    go_wp2
    go_ret
    exact ⟨rfl, HB.out⟩
  | true =>
  rw [Bool.and_eq_true] at hr
  obtain ⟨v, rfl, rfl, hv⟩ := right_v64 hr.2
  have HOK := Lib.hid (ok_all hr.1 HWE.out)
  have HV64 := Lib.hid hv
  clear hr hv
  obtain ⟨v0, v1⟩ := cells2 HV.out
  have HOF := Lib.hid (fof_c v HV64.out A n c l w3 (HS.out.all HB.out) HOK.out)
  unfold vw at HOF
  go_wp2_with fail
  refine HOF.out.mono ?_
  rintro e w4 ⟨b0, c0, i0, xs0, ys0, rfl, ho, hb4⟩
  have HO := Lib.hid (ho.base HB.out.size)
  have HB := Lib.hid (HB.out.trans (hb4.mono HB.out.size)); clear ho hb4 v0 v1 HOF HV
  have HWF := Lib.hid (wf_of HV64.out HOK.out)
  have HTW := Lib.hid (twice HV64.out HOK.out)
  have HWK : Hid (∀ k, WfS ((l.take k).foldl applyS (ofS v l))) := Lib.hid (fun k => wf_fold _ HWF.out (fun r hr => HOK.out r (List.mem_of_mem_take hr)))
  generalize ofS v l = s at HO HWF HTW HWK ⊢
  have HST := Lib.hid (HO.out.stoW HWF.out)
  unfold stv
  go_upto_region 6 with (fail)
  have HX := Lib.hid (show Sx (w4.alloc (.cells #[.slice b0.a b0.n b0.c, .slice c0.a c0.n c0.c, .slice i0.a i0.n i0.c, .int .i64 (s.held.1 : Int), .int .i64 (s.held.2 : Int), .int .i64 s.inc, .int .i64 s.last] 28)) w4.heap.size s b0 c0 i0 from hat _ _ _ rfl)
  have hbx := bal (Below.refl w4.heap.size w4) (Nat.le_refl _) (.cells #[.slice b0.a b0.n b0.c, .slice c0.a c0.n c0.c, .slice i0.a i0.n i0.c, .int .i64 (s.held.1 : Int), .int .i64 (s.held.2 : Int), .int .i64 s.inc, .int .i64 s.last] 28)
  have HO := Lib.hid (HO.out.below hbx); have HST := Lib.hid (HST.out.all hbx); have HB := Lib.hid (HB.out.trans (hbx.mono HB.out.size))
  clear hbx
  generalize w4.alloc (.cells #[.slice b0.a b0.n b0.c, .slice c0.a c0.n c0.c, .slice i0.a i0.n i0.c, .int .i64 (s.held.1 : Int), .int .i64 (s.held.2 : Int), .int .i64 s.inc, .int .i64 s.last] 28) = w5 at HX HO HST HB ⊢
  generalize w4.heap.size = gs at HX ⊢
  obtain ⟨z0, z1, z2, z3, z4, z5, z6⟩ := HX.out.cs
  go_upto_region 7 with (fail)
  have HT := Lib.hid (show Sx (w5.alloc (.cells #[.slice b0.a b0.n b0.c, .slice c0.a c0.n c0.c, .slice i0.a i0.n i0.c, .int .i64 (s.held.1 : Int), .int .i64 (s.held.2 : Int), .int .i64 s.inc, .int .i64 s.last] 28)) w5.heap.size s b0 c0 i0 from hat _ _ _ rfl)
  have hbx := bal (Below.refl w5.heap.size w5) (Nat.le_refl _) (.cells #[.slice b0.a b0.n b0.c, .slice c0.a c0.n c0.c, .slice i0.a i0.n i0.c, .int .i64 (s.held.1 : Int), .int .i64 (s.held.2 : Int), .int .i64 s.inc, .int .i64 s.last] 28)
  have HNE := Lib.hid (show gs ≠ w5.heap.size from Nat.ne_of_lt HX.out.lt)
  have HGT := Lib.hid (show w.heap.size ≤ w5.heap.size from HB.out.size)
  have HBS := Lib.hid (Nat.le_refl w5.heap.size)
  have HC := Lib.hid hbx
  have HX := Lib.hid (HX.out.all hbx); have HO := Lib.hid (HO.out.below hbx)
  clear hbx z0 z1 z2 z3 z4 z5 z6
  generalize hwt : w5.alloc (.cells #[.slice b0.a b0.n b0.c, .slice c0.a c0.n c0.c, .slice i0.a i0.n i0.c, .int .i64 (s.held.1 : Int), .int .i64 (s.held.2 : Int), .int .i64 s.inc, .int .i64 s.last] 28) = w6 at HX HO HT HC ⊢
  clear hwt
  generalize hgt : w5.heap.size = gt at HT HNE HGT HBS HC ⊢
  have HGE := Lib.hid hgt; clear hgt
  go_wp2
  go_loopw [26] (fun ix wr => ∃ (b c1 i : Sl) (xs ys : List ((Nat × Nat) × Sl)) (k : Nat), ix = .int .i64 k ∧ k ≤ n ∧ Sx wr gs s b0 c0 i0 ∧ Sx wr gt ((l.take k).foldl applyS s) b c1 i ∧ Ors wr w.heap.size ((l.take k).foldl applyS s) b c1 i xs ys ∧ Below gt w5 wr) (fun ix _ => n - (intOf ix).toNat)
  case atStart => exact ⟨b0, c0, i0, xs0, ys0, 0, rfl, by omega, HX.out, HT.out, HO.out, HC.out⟩
  case round =>
    clear HX HT HO HC
    rename World => wl
    obtain ⟨b, c1, i, xs, ys, k, rfl, hk, hx, ht, ho, hc⟩ := hrel
    have HX := Lib.hid hx; have HT := Lib.hid ht; have HO := Lib.hid ho; have HC := Lib.hid hc
    clear hx ht ho hc
    have HBL : Hid (Below w.heap.size w wl) := Lib.hid (HB.out.trans (HC.out.mono HGT.out))
    have HSR := Lib.hid (HS.out.all HBL.out)
    by_cases h : k < n
    · obtain ⟨bb, o, rfl, hbB, hcell⟩ := HSR.out.2.2.2.2 (by rw [← HN.out]; omega)
      have hkl : k < l.length := by rw [← HN.out]; exact h
      have hz : l[k]? = some l[k] := List.getElem?_eq_getElem hkl
      have hc0 := elv_at (hcell k l[k] hz)
      have HOR := Lib.hid (HOK.out l[k] (List.getElem_mem hkl))
      have HSN : Hid ((l.take (k + 1)).foldl applyS s = applyS ((l.take k).foldl applyS s) l[k]) := Lib.hid (by rw [take_snocR hz, List.foldl_append]; rfl)
      have HWS := Lib.hid (HWK.out k)
      generalize l[k] = r at hc0 HOR HSN
      generalize (l.take k).foldl applyS s = t at HT HO HSN HWS
      clear hz hkl hcell hbB
      rw [show KR.k = 11 from rfl] at hc0
      obtain ⟨x0, x1, x2, x3, x4, x5, x6, x7, x8, x9, x10⟩ := hc0
      go_upto_region 10 with (fail)
      have HXR := Lib.hid (show Rx (wl.alloc (.cells #[.int .i64 r.kind, .int .i64 r.va, .int .i64 r.vd, .int .i64 r.cn, .int .i64 r.ca, .int .i64 r.cd, .int .i64 r.e.key, .int .i64 r.e.num, .int .i64 r.e.node, .float .f64 r.e.val, .int .i64 r.n] 60)) wl.heap.size r from hat _ _ _ rfl)
      have hbx := bal (Below.refl wl.heap.size wl) (Nat.le_refl _) (.cells #[.int .i64 r.kind, .int .i64 r.va, .int .i64 r.vd, .int .i64 r.cn, .int .i64 r.ca, .int .i64 r.cd, .int .i64 r.e.key, .int .i64 r.e.num, .int .i64 r.e.node, .float .f64 r.e.val, .int .i64 r.n] 60)
      have HX := Lib.hid (HX.out.all hbx); have HT := Lib.hid (HT.out.all hbx); have HO := Lib.hid (HO.out.below hbx)
      have HC := Lib.hid (HC.out.trans (hbx.mono (by rw [← HGE.out]; exact HC.out.size))); have HBL := Lib.hid (HBL.out.trans (hbx.mono HBL.out.size)); clear hbx x0 x1 x2 x3 x4 x5 x6 x7 x8 x9 x10 HSR
      generalize wl.alloc (.cells #[.int .i64 r.kind, .int .i64 r.va, .int .i64 r.vd, .int .i64 r.cn, .int .i64 r.ca, .int .i64 r.cd, .int .i64 r.e.key, .int .i64 r.e.num, .int .i64 r.e.node, .float .f64 r.e.val, .int .i64 r.n] 60) = wm at HX HT HO HXR HC HBL ⊢
      generalize wl.heap.size = gr at HXR ⊢
      obtain ⟨y0, y1, y2, y3, y4, y5, y6, y7, y8, y9, y10⟩ := HXR.out.cs
      obtain ⟨z0, z1, z2, z3, z4, z5, z6⟩ := HT.out.cs
      have HAP := Lib.hid (apply_c t b c1 i wm (HO.out.stoW HWS.out) HWS.out r HOR.out)
      unfold stv rvv at HAP
      go_wp2_with fail
      refine HAP.out.mono ?_
      rintro e w7 ⟨b', c', i', xs', ys', rfl, ho', hb7⟩
      have HO7 := Lib.hid (ho'.base HBL.out.size); clear ho'
      have HX := Lib.hid (HX.out.all hb7); have HT := Lib.hid (HT.out.all hb7); have HC := Lib.hid (HC.out.trans (hb7.mono (by rw [← HGE.out]; exact HC.out.size)))
      clear hb7 HAP y0 y1 y2 y3 y4 y5 y6 y7 y8 y9 y10 z0 z1 z2 z3 z4 z5 z6 HXR HO
      generalize applyS t r = t2 at HO7 HSN
      unfold stv
      obtain ⟨z0, z1, z2, z3, z4, z5, z6⟩ := HT.out.cs
      have f0 := HT.out.frozen 0; have f1 := HT.out.frozen 1; have f2 := HT.out.frozen 2; have f3 := HT.out.frozen 3; have f4 := HT.out.frozen 4; have f5 := HT.out.frozen 5; have f6 := HT.out.frozen 6
      have HPP := Lib.hid (HO7.out.put HT.out t2 b' c' i')
      have HXP := Lib.hid (show Sx (((((((w7.setCell ⟨gt, 0, none⟩ (.slice b'.a b'.n b'.c)).setCell ⟨gt, 1, none⟩ (.slice c'.a c'.n c'.c)).setCell ⟨gt, 2, none⟩ (.slice i'.a i'.n i'.c)).setCell ⟨gt, 3, none⟩ (.int .i64 (t2.held.1 : Int))).setCell ⟨gt, 4, none⟩ (.int .i64 (t2.held.2 : Int))).setCell ⟨gt, 5, none⟩ (.int .i64 t2.inc)).setCell ⟨gt, 6, none⟩ (.int .i64 t2.last)) gs s b0 c0 i0 from (((((((HX.out.other HNE.out _).other HNE.out _).other HNE.out _).other HNE.out _).other HNE.out _).other HNE.out _).other HNE.out _))
      have HCP := Lib.hid (show Below gt w5 (((((((w7.setCell ⟨gt, 0, none⟩ (.slice b'.a b'.n b'.c)).setCell ⟨gt, 1, none⟩ (.slice c'.a c'.n c'.c)).setCell ⟨gt, 2, none⟩ (.slice i'.a i'.n i'.c)).setCell ⟨gt, 3, none⟩ (.int .i64 (t2.held.1 : Int))).setCell ⟨gt, 4, none⟩ (.int .i64 (t2.held.2 : Int))).setCell ⟨gt, 5, none⟩ (.int .i64 t2.inc)).setCell ⟨gt, 6, none⟩ (.int .i64 t2.last)) from (((((((HC.out.setCell (Nat.le_refl _) _).setCell (Nat.le_refl _) _).setCell (Nat.le_refl _) _).setCell (Nat.le_refl _) _).setCell (Nat.le_refl _) _).setCell (Nat.le_refl _) _).setCell (Nat.le_refl _) _))
      go_wp2
      exact ⟨⟨b', c', i', xs', ys', k + 1, by go_num, by omega, HXP.out, by rw [HSN.out]; exact HPP.out.2, by rw [HSN.out]; exact HPP.out.1, HCP.out⟩, by simp [intOf]; omega⟩
    · obtain rfl : k = n := by omega
      have hlt : l.take k = l := List.take_of_length_le (by rw [← HN.out]; omega)
      rw [hlt, HTW.out] at HT HO
      clear hlt hk HWK
      have HS1 := Lib.hid (HST.out.all (show Below w5.heap.size w5 wl from by rw [HGE.out]; exact HC.out))
      have HS2 := Lib.hid (HO.out.stoW HWF.out)
      have HSA := Lib.hid (same_c s b0 c0 i0 s b c1 i wl HS1.out HS2.out HWF.out)
      rw [sameS_refl] at HSA
      unfold stv at HSA
      obtain ⟨z0, z1, z2, z3, z4, z5, z6⟩ := HX.out.cs
      obtain ⟨q0, q1, q2, q3, q4, q5, q6⟩ := HT.out.cs
      clear HS1 HS2 HO
      go_wp2_with fail
      refine HSA.out.mono ?_
      rintro e w8 ⟨rfl, hb8⟩
      have HB8 := Lib.hid (HBL.out.trans (hb8.mono HBL.out.size)); clear hb8
      go_wp2
      go_ret
      exact ⟨rfl, HB8.out⟩
end Go.Proofs.YtfblnomkafimhaaGreat.foldTwice

namespace Go.Proofs.YtfblnomkafimhaaGreat
set_option maxRecDepth 20000
open Go.ChangeShapes Go.WideShapes Go.ChangeAt Go.RowKit

theorem open_i64 {H : Type} {enc : TypeId × Value → H} {W : World} {b0 : Nat} {t e : TypeId} {v : Value} {d : DataW H} {p : List MemPlace} (ht : Tryz.prog.underlying t = some (.slice e)) (he : Tryz.prog.underlying e = some (.int .i64)) (hc : Tryz.prog.cellsOf e = 1)
    (hval : Value.okWide Tryz.prog W .any b0 t v) (h : DataW.Trod enc Tryz.prog W 0 (fun _ => true) true t v d p) (hlt : ∀ x ∈ p, x.block < W.heap.size) :
    ∃ A n c, ∃ zs : List Int, v = .slice A n c ∧ n = zs.length ∧ n ≤ c ∧ Rd W W.heap.size A (zs.map (Value.int .i64)) ∧ (∀ z ∈ zs, (Lit.int .i64 z).wf = true) ∧ Places d c := by
  obtain ⟨A, n, c, zs, hv, hn, hnc, _, hr, hw, hd⟩ := open_zs ht he hc hval h hlt
  exact ⟨A, n, c, zs, hv, hn, hnc, hr, hw, hd⟩

theorem open_view {H : Type} {enc : TypeId × Value → H} {W : World} {b0 : Nat} {v : Value} {d : DataW H} {p : List MemPlace}
    (hval : Value.okWide Tryz.prog W .any b0 26 v) (h : DataW.Trod enc Tryz.prog W 0 (fun _ => true) true 26 v d p) :
    ∃ a b : Int, v = .agg #[.int .i64 a, .int .i64 b] ∧ (Lit.int .i64 a).wf = true ∧ (Lit.int .i64 b).wf = true := by
  obtain ⟨v0, v1, y0, y1, n, rfl, _, _, h0, h1⟩ := Go.Joins.open_agg2 (P := Tryz.prog) Tryz.underlying26 (by kernel_rfl) (by kernel_rfl) hval h
  obtain ⟨a, ea, _, wa⟩ := DataW.trod_int Tryz.underlying3 h0
  obtain ⟨b, eb, _, wb⟩ := DataW.trod_int Tryz.underlying3 h1
  simp only [List.cons.injEq, and_true] at ea eb
  exact ⟨a, b, by rw [ea, eb], wa, wb⟩
end Go.Proofs.YtfblnomkafimhaaGreat

namespace Go.Proofs.YtfblnomkafimhaaGreat
open Go.ChangeShapes Go.WideShapes Go.ChangeAt Go.RowKit

theorem foldTwice_own : ownKnob Tryz.prog.godebug = none := by kernel_rfl
theorem foldTwice_laid : laidOutB Tryz.prog = true := by kernel_rfl

set_option maxRecDepth 100000 in
theorem foldTwice_lifted (os : Os) (started : os.Started) (H : Type) (enc : TypeId × Value → H) :
    ReturnsInHanded {} Tryz.checked os 7 .any (Rows.foldTwiceSpec.pre6 enc Tryz.prog Tryz.f7 Rows.foldTwiceRow.domain false) (Rows.foldTwiceSpec.post enc Tryz.prog Tryz.f7 false true false false) := by
  refine returnsInHanded_of_change_sized (C := Tryz.checked) foldTwice_own started (by kernel_rfl) Tryz.func7
    (ChangeSpec.witness6 (enc := enc) (C := Tryz.checked) false ⟨#[], #[.agg #[.int .i64 0, .int .i64 0], .slice none 0 0], []⟩ 8 (by kernel_rfl) (by kernel_rfl) (by kernel_rfl) (by kernel_rfl)) ?_
  intro W base args ds gs before hval0 hW _ hsz0 _
  have hsz : (DataW.weightsEach Tryz.prog (Tryz.f7.params.toList ++ Rows.foldTwiceSpec.plain.varTypes Tryz.prog) (ds ++ gs)).all (· ≤ reachBytes) = true := hsz0
  have hval : ∀ (j : Nat) t v, Tryz.f7.params[j]? = some t → args[j]? = some v → Value.okWide Tryz.prog W .any base t v := hval0
  have hW' := hW
  obtain ⟨p, q, hA0, hV, rfl, hfz, hnd⟩ := hW
  have hA : DataW.TrodAll enc Tryz.prog W 0 (fun _ => true) true Tryz.f7.params.toList args.toList ds p := hA0
  rw [Tryz.params7] at hA hval hsz
  obtain ⟨v0, vs0, d0, ds0, p0, q0, hargs, rfl, rfl, h0, r0⟩ := trodAll_cons hA
  obtain ⟨v1, vs1, d1, ds1, p1, q1, rfl, rfl, rfl, h1, r1⟩ := trodAll_cons r0
  obtain ⟨rfl, rfl, rfl⟩ := trodAll_nil r1
  obtain rfl : args = #[v0, v1] := by cases args; simp_all
  obtain ⟨rfl, rfl⟩ := trodVars_none hV
  clear hA0 hval0
  simp only [List.append_nil] at hW'
  have hk0 := h0
  have hlt0 : ∀ x ∈ p0, x.block < W.heap.size := (fun x hx => by have := hW'.lt x (by simp [hx]); simpa using this)
  obtain ⟨a0, b0, rfl, wa0, wb0⟩ := open_view (hval 0 26 v0 rfl rfl) h0
  have hk1 := h1
  have hlt1 : ∀ x ∈ p1, x.block < W.heap.size := (fun x hx => by have := hW'.lt x (by simp [hx]); simpa using this)
  obtain ⟨A1, n1, c1, l1, rfl, hn1, hc1, hr1, hw1, hd1⟩ := open_recs Tryz.underlying40 (hval 1 40 v1 rfl rfl) h1 hlt1
  have hb1 := sized_places hsz (j := 1) rfl rfl Tryz.underlying40 hd1
  rw [show Tryz.prog.bytesOf 60 = 88 from by kernel_rfl] at hb1
  refine (foldTwice.walk W a0 wa0 b0 wb0 A1 n1 c1 l1 ⟨hn1, hc1, by omega, fun r hr => (hw1 r hr).2.2.2, hr1⟩ hw1).mono fun e W' ⟨he, hb⟩ => ?_
  subst he
  exact ⟨_, rfl, _, _, _, [], _, [], hW', trodAll_cons_mk (shut_bool Tryz.underlying4 _) trodAll_mk0, (trodAll_cons_mk (Below.trod foldTwice_laid (by kernel_rfl) (of_decide_eq_true (by kernel_rfl)) hk0 hb hlt0) (trodAll_cons_mk (Below.trod foldTwice_laid (by kernel_rfl) (of_decide_eq_true (by kernel_rfl)) hk1 hb hlt1) trodAll_mk0)), rfl, hb.frame _, fun h => by cases h⟩

theorem foldTwice_proved : Rows.FoldTwiceSaid :=
  OpenClaim.holds_of_wide 7 Tryz.f7 rfl rfl rfl rfl rfl rfl rfl ⟨rfl, rfl, rfl, rfl, rfl⟩ rfl rfl rfl rfl rfl (by kernel_rfl) Tryz.func7 (by kernel_rfl)
    (of_decide_eq_true (by kernel_rfl)) (by unfold Func.isWrapper; first | (rw [if_pos (by decide +kernel)]; kernel_rfl) | (rw [if_neg (by decide +kernel)]; exact ⟨rfl, rfl⟩))
    (fun os started H enc _ => foldTwice_lifted os started H enc)
#print axioms foldTwice_proved
end Go.Proofs.YtfblnomkafimhaaGreat
