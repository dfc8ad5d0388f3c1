/- For every view, list of records and record, FoldSteps returns true and leaves its arguments as they were. Conditions: none. -/
import Derived.Test.YtfblnomkafimhaaGreatRows
import Derived.Test.YtfblnomkafimhaaGreatG17
import Derived.Test.YtfblnomkafimhaaGreatG32
import Derived.Test.YtfblnomkafimhaaGreatG33
import Derived.Test.YtfblnomkafimhaaGreatG45
import Derived.Test.YtfblnomkafimhaaGreatG48
import Derived.Lib.SmallJoins
import Derived.WalkKit
import Derived.ProofKit
import Derived.OpenShut
import Derived.Laws.Cover2
import Derived.SizedLaws
import Derived.JoinedCond
import Derived.Carry
set_option linter.unusedSimpArgs false
set_option linter.unusedVariables false
namespace Go.Proofs.YtfblnomkafimhaaGreat.Lgw
set_option maxRecDepth 20000
open Go.RowKit
open Bk Lg
open Rg (bal)

/-- append onto an empty row without room: all that was stays -/
theorem op_app0F {w : World} {o : Oper} {a : Act} {Kn : Act → World → Prop} {Q : Exit → Act → World → Prop} (s x : Operand)
    (ho : o.op = .call { callee := .builtin .append, args := #[s, x], argTypes := #[40, 40] })
    (g : Nat) (hs : a.eval s = .slice (some ⟨g, 0, none⟩) 0 0) (hg : w.heap[g]? = some (.cells #[] 60))
    (B : Nat) (A : Option Addr) (m c : Nat) (rs : List R) (hx : a.eval x = .slice A m c) (hm : m = rs.length) (hr : Rg.Rs KR w B A rs) (hb : m ≤ 1000)
    (h : ∀ A' c' w', Below w.heap.size w w' → ((rs = [] ∧ w' = w ∧ A' = some ⟨g, 0, none⟩ ∧ c' = 0) ∨ Rg.OwnG KR w' w.heap.size A' m c' rs) → Kn (a.put o.dst (.slice A' m c')) w') : o.wp Tryz.prog a w Kn Q := by
  obtain ⟨i0, hi, hz0, hz1, hz2⟩ := info_parts (KR).info
  have hby : (KR).bytes = 88 := rfl
  have hk : (KR).k = 11 := rfl
  have hown : Rg.OwnG KR w g (some ⟨g, 0, none⟩) 0 0 [] := ⟨rfl, by simp [Rg.flat], .inr ⟨g, 0, #[], rfl, Nat.le_refl _, hg, Nat.le_refl _, by simp, by simp, by simp [Rg.flat]⟩⟩
  have hlt : g < w.heap.size := (Array.getElem?_eq_some_iff.1 hg).1
  have key : ∃ A' c' w', (Builtin.append_ #[40, 40] o.type #[.slice (some ⟨g, 0, none⟩) 0 0, .slice A m c]).run Tryz.prog w = .ok (.slice A' m c') w' ∧ Below w.heap.size w w' ∧ ((rs = [] ∧ w' = w ∧ A' = some ⟨g, 0, none⟩ ∧ c' = 0) ∨ Rg.OwnG KR w' w.heap.size A' m c' rs) := by
    have hu : Tryz.prog.underlying 40 = some (.slice 60) := Tryz.underlying40
    have hi' : Tryz.prog.info? 60 = some i0 := hi
    rcases Nat.eq_zero_or_pos rs.length with h0 | h0
    · have hn : rs = [] := List.eq_nil_of_length_eq_zero h0
      subst hn
      have hm0 : m = 0 := by simpa using hm
      subst hm0
      refine ⟨some ⟨g, 0, none⟩, 0, w, ?_, Below.refl _ _, Or.inl ⟨rfl, rfl, rfl, rfl⟩⟩
      cases A with
      | none => simp [Builtin.append_, run_underlying hu, sizeOf, typeInfo, hi', Builtin.lenOf, Builtin.firstCells, storeCells]
      | some ad =>
        have hf := run_firstCells_some (P := Tryz.prog) w i0.size 0 ad 0 c [] (by simp) (by simp)
        simp [Builtin.append_, run_underlying hu, sizeOf, typeInfo, hi', Builtin.lenOf, hf, storeCells]
    · obtain ⟨b, oo, rfl, _, hc⟩ := hr h0
      have hcell : ∀ j u, (Rg.flat KR rs)[j]? = some u → w.cell? ((⟨b, oo, none⟩ : Addr).add j) = some u := fun j u hu => by
        rw [Rg.add_at]
        obtain ⟨k, i, v, hv, hi2, rfl, hh⟩ := Rg.flat_get KR rs j u hu
        rw [← Nat.add_assoc]
        exact hc k v hv i u hh
      obtain ⟨v', w', hrun, hoo, hg2, _⟩ := run_append_own (P := Tryz.prog) w g (KR).S o.type (KR).T i0 _ (KR).k (KR).bytes (KR).und hi hz0 hz1 hz2 (KR).zs (KR).kpos _ 0 (Rg.flat KR []) hown.2 ⟨b, oo, none⟩ m c (Rg.flat KR rs) (by rw [Rg.flat_len, hm]) hcell (Rg.flat_one KR rs) (by unfold maxLen; omega) (by rw [hby]; omega) (by omega)
      have k1 := run_append_grow (P := Tryz.prog) w (KR).S o.type (KR).T i0 _ (KR).und hi hz0 ⟨g, 0, none⟩ 0 0 [] (by simp) (by simp) ⟨b, oo, none⟩ m c (Rg.flat KR rs) (by rw [Rg.flat_len, hm, hz1]) hcell (by omega) (by omega) (growslice_fits (by omega) (by rw [hz2, hby]; omega))
      rw [k1] at hrun
      injection hrun with e4 e5
      subst e4
      subst e5
      rw [Nat.zero_add] at k1 hoo
      refine ⟨_, _, _, k1, ((Below.refl w.heap.size w).drew).alloc (Nat.le_refl _) _, Or.inr ⟨hm, ?_⟩⟩
      have hfl : Rg.flat KR [] ++ Rg.flat KR rs = Rg.flat KR rs := by simp [Rg.flat]
      rw [hfl] at hoo
      refine ⟨hoo.1, ?_⟩
      rcases hoo.2 with ⟨hv, _⟩ | ⟨g3, cap3, cur3, hv, _, r⟩
      · cases hv
      · refine .inr ⟨g3, cap3, cur3, hv, ?_, r⟩
        injection hv with e1 e2 e3
        injection e1 with e1
        injection e1 with e1
        omega
  obtain ⟨A', c', w', hrun, h2, h3⟩ := key
  unfold Oper.wp execOp
  simp only [ho, resolve, invoke, builtin, Sem.run_bind, Sem.run_pure, Result.andThen_ok, List.map_toArray, List.map_cons, List.map_nil, hs, hx, hrun]
  exact h A' c' w' h2 h3
end Go.Proofs.YtfblnomkafimhaaGreat.Lgw

namespace Go.Proofs.YtfblnomkafimhaaGreat.foldSteps
open Go.RowKit
open Chg Vw Cl Bk Lg Fo Clw Bkw Fow
open Lgw (rvv Rx KR Sr Elv elv_at)
open Chgw (hat hbe vw ret_bool ret_i64 Vx)
open Rg (bal)
set_option maxRecDepth 20000

theorem rs_oneF (w : World) (r : R) (g : Nat) (hg : g = w.heap.size) : Rg.Rs KR (w.alloc (.cells #[.int .i64 r.kind, .int .i64 r.va, .int .i64 r.vd, .int .i64 r.cn, .int .i64 r.ca, .int .i64 r.cd, .int .i64 r.e.key, .int .i64 r.e.num, .int .i64 r.e.node, .float .f64 r.e.val, .int .i64 r.n] 60)) (w.alloc (.cells #[.int .i64 r.kind, .int .i64 r.va, .int .i64 r.vd, .int .i64 r.cn, .int .i64 r.ca, .int .i64 r.cd, .int .i64 r.e.key, .int .i64 r.e.num, .int .i64 r.e.node, .float .f64 r.e.val, .int .i64 r.n] 60)).heap.size (some ⟨g, 0, none⟩) [r] := by
  subst hg
  rw [World.size_alloc]
  exact Rg.rs_new KR w [r]
set_option maxHeartbeats 8000000 in
theorem walk (w : World) (a : Int) (_ : (Lit.int .i64 a).wf = true) (d : Int) (_ : (Lit.int .i64 d).wf = true) (A : Option Addr) (n c : Nat) (l : List R) (hs : Sr w A n c l) (hwf : ∀ r ∈ l, WfE r.e) (r : R) (hrw : WfE r.e) :
    Calls Tryz.prog 5 #[.agg #[.int .i64 a, .int .i64 d], .slice A n c, rvv r] w fun e w' => e = .returned (.bool true) ∧ Below w.heap.size w w' := by
  have hsf := Lgw.store_flt
  have HS := Lib.hid hs; have HWE := Lib.hid hwf; have HWR := Lib.hid hrw
  have HN := Lib.hid hs.1
  clear hs hwf hrw
  unfold rvv
  go_enter Tryz.func5, Tryz.ntmps5
  go_upto_region 1 with (fail)
  have HV := Lib.hid (show ((w.alloc (.cells #[.int .i64 a, .int .i64 d] 26)).alloc (.cells #[.int .i64 r.kind, .int .i64 r.va, .int .i64 r.vd, .int .i64 r.cn, .int .i64 r.ca, .int .i64 r.cd, .int .i64 r.e.key, .int .i64 r.e.num, .int .i64 r.e.node, .float .f64 r.e.val, .int .i64 r.n] 60)).heap[w.heap.size]? = some (.cells #[.int .i64 a, .int .i64 d] 26) from hbe (hat _ _ _ rfl))
  have HXR := Lib.hid (show Rx ((w.alloc (.cells #[.int .i64 a, .int .i64 d] 26)).alloc (.cells #[.int .i64 r.kind, .int .i64 r.va, .int .i64 r.vd, .int .i64 r.cn, .int .i64 r.ca, .int .i64 r.cd, .int .i64 r.e.key, .int .i64 r.e.num, .int .i64 r.e.node, .float .f64 r.e.val, .int .i64 r.n] 60)) (w.heap.size + 1) r from hat _ _ _ (by simp))
  have HB := Lib.hid (bal (bal (Below.refl w.heap.size w) (Nat.le_refl _) (.cells #[.int .i64 a, .int .i64 d] 26)) (Nat.le_refl _) (.cells #[.int .i64 r.kind, .int .i64 r.va, .int .i64 r.vd, .int .i64 r.cn, .int .i64 r.ca, .int .i64 r.cd, .int .i64 r.e.key, .int .i64 r.e.num, .int .i64 r.e.node, .float .f64 r.e.val, .int .i64 r.n] 60))
  generalize (w.alloc (.cells #[.int .i64 a, .int .i64 d] 26)).alloc (.cells #[.int .i64 r.kind, .int .i64 r.va, .int .i64 r.vd, .int .i64 r.cn, .int .i64 r.ca, .int .i64 r.cd, .int .i64 r.e.key, .int .i64 r.e.num, .int .i64 r.e.node, .float .f64 r.e.val, .int .i64 r.n] 60) = w1 at HV HXR HB ⊢
  generalize w.heap.size + 1 = gr at HXR ⊢
  generalize hgx : w.heap.size = gv at HV ⊢
  have HGV := Lib.hid hgx; clear hgx
  go_upto_region 3 with (refine (fold_alive_c w1).mono ?_; rintro e w2 ⟨rfl, hb2⟩)
  have HV := Lib.hid ((hb2.block _ (Array.getElem?_eq_some_iff.1 HV.out).1).trans HV.out)
  have HXR := Lib.hid (HXR.out.all hb2)
  have HB := Lib.hid (HB.out.trans (hb2.mono HB.out.size)); clear hb2
  by_cases h60 : 60 < n
  · go_wp2
    go_ret
    exact ⟨rfl, HB.out⟩
  obtain ⟨v0, v1⟩ := cells2 HV.out
  have HRI := Lib.hid (right_w a d A n c l w2 (HS.out.all HB.out))
  go_wp2_with fail
  refine HRI.out.mono ?_
  rintro e w3 ⟨rfl, hb3⟩
  have HV := Lib.hid ((hb3.block _ (Array.getElem?_eq_some_iff.1 HV.out).1).trans HV.out)
  have HXR := Lib.hid (HXR.out.all hb3)
  have HB := Lib.hid (HB.out.trans (hb3.mono HB.out.size)); clear hb3 v0 v1 HRI
  cases hr : (l.all rightR && Chgw.rightB a d) with
  | false =>
    go_wp2
    go_ret
    exact ⟨rfl, HB.out⟩
  | true =>
  obtain ⟨y0, y1, y2, y3, y4, y5, y6, y7, y8, y9, y10⟩ := HXR.out.cs
  have HRR := Lib.hid (Lgw.right_r r HWR.out.2.2.2 w3)
  unfold rvv at HRR
  go_wp2_with fail
  refine HRR.out.mono ?_
  rintro e w3 ⟨rfl, hb3⟩
  have HV := Lib.hid ((hb3.block _ (Array.getElem?_eq_some_iff.1 HV.out).1).trans HV.out)
  have HXR := Lib.hid (HXR.out.all hb3)
  have HB := Lib.hid (HB.out.trans (hb3.mono HB.out.size)); clear hb3 y0 y1 y2 y3 y4 y5 y6 y7 y8 y9 y10 HRR
  cases hrr : rightR r with
  | false =>
    go_wp2
    go_ret
    exact ⟨rfl, HB.out⟩
  | true =>
  rw [Bool.and_eq_true] at hr
  obtain ⟨v, rfl, rfl, hv⟩ := right_v64 hr.2
  have HOK := Lib.hid (ok_all hr.1 HWE.out)
  have HOR := Lib.hid (show OkR r from ⟨hrr, HWR.out⟩)
  have HV64 := Lib.hid hv
  clear hr hv hrr
  obtain ⟨v0, v1⟩ := cells2 HV.out
  have HOF := Lib.hid (fof_c v HV64.out A n c l w3 (HS.out.all HB.out) HOK.out)
  unfold vw at HOF
  go_wp2_with fail
  refine HOF.out.mono ?_
  rintro e w4 ⟨b0, c0, i0, xs0, ys0, rfl, ho, hb4⟩
  have HO := Lib.hid ho
  have HXR := Lib.hid (HXR.out.all hb4)
  have HV4 := Lib.hid ((hb4.block _ (Array.getElem?_eq_some_iff.1 HV.out).1).trans HV.out)
  have HB := Lib.hid (HB.out.trans (hb4.mono HB.out.size)); clear ho hb4 v0 v1 HOF HV
  have HWF := Lib.hid (wf_of HV64.out HOK.out)
  have HOK2 : Hid (∀ x ∈ l ++ [r], OkR x) := Lib.hid (fun x hx => by
    rcases List.mem_append.1 hx with h | h
    · exact HOK.out x h
    · rw [List.mem_singleton.1 h]; exact HOR.out)
  have HWF2 := Lib.hid (wf_of HV64.out HOK2.out)
  have HEQ := Lib.hid (of_eq HV64.out HOK.out)
  have HEQ2 := Lib.hid (of_eq HV64.out HOK2.out)
  have HAPP : Hid (applyS (ofS v l) r = ofS v (l ++ [r])) := Lib.hid (by unfold ofS; rw [List.foldl_append]; rfl)
  have HOF2 := Lib.hid (fun W hW => of_o v HV64.out A n c l W (HS.out.all hW) HOK.out)
  have HOF3 := Lib.hid (fun W A n c h => of_o v HV64.out A n c (l ++ [r]) W h HOK2.out)
  rw [← HEQ.out] at HOF2
  rw [← HEQ2.out] at HOF3
  clear HEQ HEQ2
  generalize ofS v l = s at HO HWF HOF2 HAPP ⊢
  generalize ofS v (l ++ [r]) = t at HWF2 HOF3 HAPP
  have HST := Lib.hid (HO.out.stoW HWF.out)
  clear HO
  unfold stv
  go_upto_region 6 with (fail)
  have HV := Lib.hid (show (w4.alloc (.cells #[.slice b0.a b0.n b0.c, .slice c0.a c0.n c0.c, .slice i0.a i0.n i0.c, .int .i64 (s.held.1 : Int), .int .i64 (s.held.2 : Int), .int .i64 s.inc, .int .i64 s.last] 28)).heap[gv]? = some (.cells #[.int .i64 (v.1 : Int), .int .i64 (v.2 : Int)] 26) from hbe HV4.out)
  have HX := Lib.hid (show Sx (w4.alloc (.cells #[.slice b0.a b0.n b0.c, .slice c0.a c0.n c0.c, .slice i0.a i0.n i0.c, .int .i64 (s.held.1 : Int), .int .i64 (s.held.2 : Int), .int .i64 s.inc, .int .i64 s.last] 28)) w4.heap.size s b0 c0 i0 from hat _ _ _ rfl)
  have hbx := bal (Below.refl w4.heap.size w4) (Nat.le_refl _) (.cells #[.slice b0.a b0.n b0.c, .slice c0.a c0.n c0.c, .slice i0.a i0.n i0.c, .int .i64 (s.held.1 : Int), .int .i64 (s.held.2 : Int), .int .i64 s.inc, .int .i64 s.last] 28)
  have HXR := Lib.hid (HXR.out.all hbx); have HST := Lib.hid (HST.out.all hbx); have HB := Lib.hid (HB.out.trans (hbx.mono HB.out.size))
  clear hbx HV4
  generalize w4.alloc (.cells #[.slice b0.a b0.n b0.c, .slice c0.a c0.n c0.c, .slice i0.a i0.n i0.c, .int .i64 (s.held.1 : Int), .int .i64 (s.held.2 : Int), .int .i64 s.inc, .int .i64 s.last] 28) = w5 at HX HV HXR HST HB ⊢
  generalize w4.heap.size = gs at HX ⊢
  have HAP := Lib.hid (apply_c s b0 c0 i0 w5 HST.out HWF.out r HOR.out)
  rw [HAPP.out] at HAP
  unfold stv rvv at HAP
  obtain ⟨z0, z1, z2, z3, z4, z5, z6⟩ := HX.out.cs
  obtain ⟨y0, y1, y2, y3, y4, y5, y6, y7, y8, y9, y10⟩ := HXR.out.cs
  go_wp2_with fail
  refine HAP.out.mono ?_
  rintro e w6 ⟨b1, c1, i1, xs, ys, rfl, ho, hb6⟩
  have HO := Lib.hid (ho.stoW HWF2.out)
  have HXR := Lib.hid (HXR.out.all hb6); have HST := Lib.hid (HST.out.all hb6); have HX := Lib.hid (HX.out.all hb6)
  have HV := Lib.hid ((hb6.block _ (Array.getElem?_eq_some_iff.1 HV.out).1).trans HV.out)
  have HB := Lib.hid (HB.out.trans (hb6.mono HB.out.size))
  clear ho hb6 z0 z1 z2 z3 z4 z5 z6 y0 y1 y2 y3 y4 y5 y6 y7 y8 y9 y10 HAP HAPP
  unfold stv
  go_upto_region 7 with (fail)
  have HT := Lib.hid (show Sx (w6.alloc (.cells #[.slice b1.a b1.n b1.c, .slice c1.a c1.n c1.c, .slice i1.a i1.n i1.c, .int .i64 (t.held.1 : Int), .int .i64 (t.held.2 : Int), .int .i64 t.inc, .int .i64 t.last] 28)) w6.heap.size t b1 c1 i1 from hat _ _ _ rfl)
  have hbx := bal (Below.refl w6.heap.size w6) (Nat.le_refl _) (.cells #[.slice b1.a b1.n b1.c, .slice c1.a c1.n c1.c, .slice i1.a i1.n i1.c, .int .i64 (t.held.1 : Int), .int .i64 (t.held.2 : Int), .int .i64 t.inc, .int .i64 t.last] 28)
  have HXR := Lib.hid (HXR.out.all hbx); have HST := Lib.hid (HST.out.all hbx); have HX := Lib.hid (HX.out.all hbx); have HST2 := Lib.hid (HO.out.all hbx)
  have HV := Lib.hid ((hbx.block _ (Array.getElem?_eq_some_iff.1 HV.out).1).trans HV.out)
  have HB := Lib.hid (HB.out.trans (hbx.mono HB.out.size))
  clear hbx HO
  generalize w6.alloc (.cells #[.slice b1.a b1.n b1.c, .slice c1.a c1.n c1.c, .slice i1.a i1.n i1.c, .int .i64 (t.held.1 : Int), .int .i64 (t.held.2 : Int), .int .i64 t.inc, .int .i64 t.last] 28) = w7 at HX HV HXR HST HST2 HT HB ⊢
  generalize w6.heap.size = gt at HT ⊢
  have HXW : Hid (∀ W, Below w7.heap.size w7 W → (W.cell? ⟨gs, 0, none⟩ = some (.slice b0.a b0.n b0.c) ∧ W.cell? ⟨gs, 1, none⟩ = some (.slice c0.a c0.n c0.c) ∧ W.cell? ⟨gs, 2, none⟩ = some (.slice i0.a i0.n i0.c) ∧ W.cell? ⟨gs, 3, none⟩ = some (.int .i64 (s.held.1 : Int)) ∧ W.cell? ⟨gs, 4, none⟩ = some (.int .i64 (s.held.2 : Int)) ∧ W.cell? ⟨gs, 5, none⟩ = some (.int .i64 s.inc) ∧ W.cell? ⟨gs, 6, none⟩ = some (.int .i64 s.last)) ∧ (W.cell? ⟨gt, 0, none⟩ = some (.slice b1.a b1.n b1.c) ∧ W.cell? ⟨gt, 1, none⟩ = some (.slice c1.a c1.n c1.c) ∧ W.cell? ⟨gt, 2, none⟩ = some (.slice i1.a i1.n i1.c) ∧ W.cell? ⟨gt, 3, none⟩ = some (.int .i64 (t.held.1 : Int)) ∧ W.cell? ⟨gt, 4, none⟩ = some (.int .i64 (t.held.2 : Int)) ∧ W.cell? ⟨gt, 5, none⟩ = some (.int .i64 t.inc) ∧ W.cell? ⟨gt, 6, none⟩ = some (.int .i64 t.last)) ∧ W.cell? ⟨gv, 0, none⟩ = some (.int .i64 (v.1 : Int)) ∧ W.cell? ⟨gv, 1, none⟩ = some (.int .i64 (v.2 : Int))) := Lib.hid (fun W hW => ⟨(HX.out.all hW).cs, (HT.out.all hW).cs, cells2 ((hW.block _ (Array.getElem?_eq_some_iff.1 HV.out).1).trans HV.out)⟩)
  have HSR := Lib.hid (HS.out.all HB.out)
  have HLN : Hid (n ≤ 60) := Lib.hid (by omega)
  clear HS
  go_cut [9] (fun s9 wq => ∃ (A2 : Option Addr) (n2 c2 : Nat), s9 = .slice A2 n2 c2 ∧ Rg.OwnG KR wq w7.heap.size A2 n2 c2 (l ++ [r]) ∧ Below w7.heap.size w7 wq)
  case first =>
    refine wp_region_held_drew (S := fun W' => Below w7.heap.size w7 W') (by kernel_rfl) (Below.refl _ _).drew (fun hHeld => ?_)
    generalize w7.drew = x5 at hHeld ⊢
    have HC : Hid (Below w7.heap.size w7 x5) := hHeld
    clear hHeld
    refine take_in (i := 1) (oi := ⟨_, _, _, _, _, _⟩) (v := ?_) rfl (by kernel_rfl) (by kernel_rfl) (by kernel_rfl) (fun _ _ _ h => h) (by rfl) ?_ HC.out ?_
    rotate_left
    · intro W hW; go_simp; with_reducible rfl
    simp only [Act.put, List.setIfInBounds_toArray, List.set_cons_zero, List.set_cons_succ]
    refine take_in (i := 3) (oi := ⟨_, _, _, _, _, _⟩) (v := ?_) rfl (by kernel_rfl) (by kernel_rfl) (by kernel_rfl) (fun _ _ _ h => h) (by rfl) ?_ HC.out ?_
    rotate_left
    · intro W hW; obtain ⟨y0, y1, y2, y3, y4, y5, y6, y7, y8, y9, y10⟩ := (HXR.out.all hW).cs; go_simp; with_reducible rfl
    simp only [Act.put, List.setIfInBounds_toArray, List.set_cons_zero, List.set_cons_succ]
    refine wpAnyH_ready (rs := [0, 4]) (by kernel_rfl) (by simp) ?_
    refine AllReadyH.cons (o := ⟨_, _, _, _, _, _⟩) rfl (fun K hK => ?_) (AllReadyH.cons (o := ⟨_, _, _, _, _, _⟩) rfl (fun K hK => ?_) AllReadyH.nil)
    · go_simp
      have H0 : Hid (Rg.OwnG KR (x5.alloc (.cells #[] 60)) w7.heap.size (some ⟨x5.heap.size, 0, none⟩) 0 0 []) := Lib.hid (Rg.own_newG KR x5 _ _ rfl HC.out.size)
      have hb_ := bal (Below.refl x5.heap.size x5) (Nat.le_refl _) (.cells #[] 60)
      replace HC := Lib.hid (HC.out.trans (hb_.mono HC.out.size)); clear hb_
      refine hK.out _ _ HC.out (fun hS_ => ?_)
      clear hK K hS_
      have HG0 : Hid ((x5.alloc (.cells #[] 60)).heap[x5.heap.size]? = some (.cells #[] 60)) := Lib.hid (hat _ _ _ rfl)
      generalize x5.alloc (.cells #[] 60) = x6 at HC H0 HG0 ⊢
      generalize x5.heap.size = g0 at H0 HG0 ⊢
      try simp only [Act.put, List.setIfInBounds_toArray, List.set_cons_zero, List.set_cons_succ]
      refine wpAnyH_ready (rs := [2, 4]) (by kernel_rfl) (by simp) ?_
      refine AllReadyH.cons (o := ⟨_, _, _, _, _, _⟩) rfl (fun K hK => ?_) (AllReadyH.cons (o := ⟨_, _, _, _, _, _⟩) rfl (fun K hK => ?_) AllReadyH.nil)
      · refine Lgw.op_app0F (.tmp 34) (.tmp 35) rfl g0 rfl HG0.out w7.heap.size A n c l rfl HN.out (HSR.out.2.2.2.2.below HC.out) (by have := HLN.out; omega) ?_
        intro A1 k1 x7 hb_ hor
        have H1 : Hid (Rg.OwnG KR x7 w7.heap.size A1 n k1 l) := Lib.hid (by
          rcases hor with ⟨e1, e2, e3, e4⟩ | h
          · have hn := HN.out
            rw [e1, List.length_nil] at hn
            rw [e1, e2, e3, e4, hn]
            exact H0.out
          · exact h.base HC.out.size)
        clear hor H0 HG0
        replace HC := Lib.hid (HC.out.trans (hb_.mono HC.out.size)); clear hb_
        refine hK.out _ _ HC.out (fun hS_ => ?_)
        clear hK K hS_
        try simp only [Act.put, List.setIfInBounds_toArray, List.set_cons_zero, List.set_cons_succ]
        refine wpAnyH_ready (rs := [4]) (by kernel_rfl) (by simp) ?_
        refine AllReadyH.cons (o := ⟨_, _, _, _, _, _⟩) rfl (fun K hK => ?_) AllReadyH.nil
        go_simp
        have HP : Hid (Rg.Rs KR (x7.alloc (.cells #[.int .i64 r.kind, .int .i64 r.va, .int .i64 r.vd, .int .i64 r.cn, .int .i64 r.ca, .int .i64 r.cd, .int .i64 r.e.key, .int .i64 r.e.num, .int .i64 r.e.node, .float .f64 r.e.val, .int .i64 r.n] 60)) (x7.alloc (.cells #[.int .i64 r.kind, .int .i64 r.va, .int .i64 r.vd, .int .i64 r.cn, .int .i64 r.ca, .int .i64 r.cd, .int .i64 r.e.key, .int .i64 r.e.num, .int .i64 r.e.node, .float .f64 r.e.val, .int .i64 r.n] 60)).heap.size (some ⟨x7.heap.size, 0, none⟩) [r]) := Lib.hid (rs_oneF x7 r _ rfl)
        have hb_ := bal (Below.refl x7.heap.size x7) (Nat.le_refl _) (.cells #[.int .i64 r.kind, .int .i64 r.va, .int .i64 r.vd, .int .i64 r.cn, .int .i64 r.ca, .int .i64 r.cd, .int .i64 r.e.key, .int .i64 r.e.num, .int .i64 r.e.node, .float .f64 r.e.val, .int .i64 r.n] 60)
        replace H1 := Lib.hid (H1.out.below hb_ (Nat.le_refl _))
        replace HC := Lib.hid (HC.out.trans (hb_.mono HC.out.size)); clear hb_
        refine hK.out _ _ HC.out (fun hS_ => ?_)
        clear hK K hS_
        generalize x7.alloc (.cells #[.int .i64 r.kind, .int .i64 r.va, .int .i64 r.vd, .int .i64 r.cn, .int .i64 r.ca, .int .i64 r.cd, .int .i64 r.e.key, .int .i64 r.e.num, .int .i64 r.e.node, .float .f64 r.e.val, .int .i64 r.n] 60) = x8 at HC HP H1 ⊢
        generalize x7.heap.size = g4 at HP ⊢
        try simp only [Act.put, List.setIfInBounds_toArray, List.set_cons_zero, List.set_cons_succ]
        refine wpAnyH_ready (rs := [5]) (by kernel_rfl) (by simp) ?_
        refine AllReadyH.cons (o := ⟨_, _, _, _, _, _⟩) rfl (fun K hK => ?_) AllReadyH.nil
        refine Rg.op_appG (K := KR) (.tmp 36) (.tmp 38) rfl w7.heap.size A1 n k1 l rfl H1.out _ _ 1 1 [r] rfl rfl HP.out (by have := HLN.out; show (n + 1) * 88 ≤ 140737488355328; omega) HC.out.size ?_
        intro A2 k2 x9 ho hb_
        have H2 := Lib.hid ho; clear ho H1 HP
        replace HC := Lib.hid (HC.out.trans hb_); clear hb_
        refine hK.out _ _ HC.out (fun hS_ => ?_)
        clear hK K hS_
        try simp only [Act.put, List.setIfInBounds_toArray, List.set_cons_zero, List.set_cons_succ]
        refine take_in (i := 6) (oi := ⟨_, _, _, _, _, _⟩) (v := ?_) rfl (by kernel_rfl) (by kernel_rfl) (by kernel_rfl) (fun _ _ _ h => h) (by rfl) ?_ HC.out ?_
        rotate_left
        · intro W hW; go_simp; with_reducible rfl
        simp only [Act.put, List.setIfInBounds_toArray, List.set_cons_zero, List.set_cons_succ]
        refine wpAnyH_done (by kernel_rfl) ?_ _
        go_wp2
        go_meet
        case rel => exact ⟨A2, n + 1, k2, rfl, H2.out, HC.out⟩
      · go_simp
        have HP : Hid (Rg.Rs KR (x6.alloc (.cells #[.int .i64 r.kind, .int .i64 r.va, .int .i64 r.vd, .int .i64 r.cn, .int .i64 r.ca, .int .i64 r.cd, .int .i64 r.e.key, .int .i64 r.e.num, .int .i64 r.e.node, .float .f64 r.e.val, .int .i64 r.n] 60)) (x6.alloc (.cells #[.int .i64 r.kind, .int .i64 r.va, .int .i64 r.vd, .int .i64 r.cn, .int .i64 r.ca, .int .i64 r.cd, .int .i64 r.e.key, .int .i64 r.e.num, .int .i64 r.e.node, .float .f64 r.e.val, .int .i64 r.n] 60)).heap.size (some ⟨x6.heap.size, 0, none⟩) [r]) := Lib.hid (rs_oneF x6 r _ rfl)
        have hb_ := bal (Below.refl x6.heap.size x6) (Nat.le_refl _) (.cells #[.int .i64 r.kind, .int .i64 r.va, .int .i64 r.vd, .int .i64 r.cn, .int .i64 r.ca, .int .i64 r.cd, .int .i64 r.e.key, .int .i64 r.e.num, .int .i64 r.e.node, .float .f64 r.e.val, .int .i64 r.n] 60)
        replace H0 := Lib.hid (H0.out.below hb_ (Nat.le_refl _))
        replace HG0 := Lib.hid ((hb_.block _ (Array.getElem?_eq_some_iff.1 HG0.out).1).trans HG0.out)
        replace HC := Lib.hid (HC.out.trans (hb_.mono HC.out.size)); clear hb_
        refine hK.out _ _ HC.out (fun hS_ => ?_)
        clear hK K hS_
        generalize x6.alloc (.cells #[.int .i64 r.kind, .int .i64 r.va, .int .i64 r.vd, .int .i64 r.cn, .int .i64 r.ca, .int .i64 r.cd, .int .i64 r.e.key, .int .i64 r.e.num, .int .i64 r.e.node, .float .f64 r.e.val, .int .i64 r.n] 60) = x7 at HC HP H0 HG0 ⊢
        generalize x6.heap.size = g4 at HP ⊢
        try simp only [Act.put, List.setIfInBounds_toArray, List.set_cons_zero, List.set_cons_succ]
        refine wpAnyH_ready (rs := [2]) (by kernel_rfl) (by simp) ?_
        refine AllReadyH.cons (o := ⟨_, _, _, _, _, _⟩) rfl (fun K hK => ?_) AllReadyH.nil
        refine Lgw.op_app0F (.tmp 34) (.tmp 35) rfl g0 rfl HG0.out w7.heap.size A n c l rfl HN.out (HSR.out.2.2.2.2.below HC.out) (by have := HLN.out; omega) ?_
        intro A1 k1 x8 hb_ hor
        have H1 : Hid (Rg.OwnG KR x8 w7.heap.size A1 n k1 l) := Lib.hid (by
          rcases hor with ⟨e1, e2, e3, e4⟩ | h
          · have hn := HN.out
            rw [e1, List.length_nil] at hn
            rw [e1, e2, e3, e4, hn]
            exact H0.out
          · exact h.base HC.out.size)
        clear hor H0 HG0
        replace HP := Lib.hid ((HP.out.below hb_).more hb_.size)
        replace HC := Lib.hid (HC.out.trans (hb_.mono HC.out.size)); clear hb_
        refine hK.out _ _ HC.out (fun hS_ => ?_)
        clear hK K hS_
        try simp only [Act.put, List.setIfInBounds_toArray, List.set_cons_zero, List.set_cons_succ]
        refine wpAnyH_ready (rs := [5]) (by kernel_rfl) (by simp) ?_
        refine AllReadyH.cons (o := ⟨_, _, _, _, _, _⟩) rfl (fun K hK => ?_) AllReadyH.nil
        refine Rg.op_appG (K := KR) (.tmp 36) (.tmp 38) rfl w7.heap.size A1 n k1 l rfl H1.out _ _ 1 1 [r] rfl rfl HP.out (by have := HLN.out; show (n + 1) * 88 ≤ 140737488355328; omega) HC.out.size ?_
        intro A2 k2 x9 ho hb_
        have H2 := Lib.hid ho; clear ho H1 HP
        replace HC := Lib.hid (HC.out.trans hb_); clear hb_
        refine hK.out _ _ HC.out (fun hS_ => ?_)
        clear hK K hS_
        try simp only [Act.put, List.setIfInBounds_toArray, List.set_cons_zero, List.set_cons_succ]
        refine take_in (i := 6) (oi := ⟨_, _, _, _, _, _⟩) (v := ?_) rfl (by kernel_rfl) (by kernel_rfl) (by kernel_rfl) (fun _ _ _ h => h) (by rfl) ?_ HC.out ?_
        rotate_left
        · intro W hW; go_simp; with_reducible rfl
        simp only [Act.put, List.setIfInBounds_toArray, List.set_cons_zero, List.set_cons_succ]
        refine wpAnyH_done (by kernel_rfl) ?_ _
        go_wp2
        go_meet
        case rel => exact ⟨A2, n + 1, k2, rfl, H2.out, HC.out⟩
    · go_simp
      have HP : Hid (Rg.Rs KR (x5.alloc (.cells #[.int .i64 r.kind, .int .i64 r.va, .int .i64 r.vd, .int .i64 r.cn, .int .i64 r.ca, .int .i64 r.cd, .int .i64 r.e.key, .int .i64 r.e.num, .int .i64 r.e.node, .float .f64 r.e.val, .int .i64 r.n] 60)) (x5.alloc (.cells #[.int .i64 r.kind, .int .i64 r.va, .int .i64 r.vd, .int .i64 r.cn, .int .i64 r.ca, .int .i64 r.cd, .int .i64 r.e.key, .int .i64 r.e.num, .int .i64 r.e.node, .float .f64 r.e.val, .int .i64 r.n] 60)).heap.size (some ⟨x5.heap.size, 0, none⟩) [r]) := Lib.hid (rs_oneF x5 r _ rfl)
      have hb_ := bal (Below.refl x5.heap.size x5) (Nat.le_refl _) (.cells #[.int .i64 r.kind, .int .i64 r.va, .int .i64 r.vd, .int .i64 r.cn, .int .i64 r.ca, .int .i64 r.cd, .int .i64 r.e.key, .int .i64 r.e.num, .int .i64 r.e.node, .float .f64 r.e.val, .int .i64 r.n] 60)
      replace HC := Lib.hid (HC.out.trans (hb_.mono HC.out.size)); clear hb_
      refine hK.out _ _ HC.out (fun hS_ => ?_)
      clear hK K hS_
      generalize x5.alloc (.cells #[.int .i64 r.kind, .int .i64 r.va, .int .i64 r.vd, .int .i64 r.cn, .int .i64 r.ca, .int .i64 r.cd, .int .i64 r.e.key, .int .i64 r.e.num, .int .i64 r.e.node, .float .f64 r.e.val, .int .i64 r.n] 60) = x6 at HC HP  ⊢
      generalize x5.heap.size = g4 at HP ⊢
      try simp only [Act.put, List.setIfInBounds_toArray, List.set_cons_zero, List.set_cons_succ]
      refine wpAnyH_ready (rs := [0]) (by kernel_rfl) (by simp) ?_
      refine AllReadyH.cons (o := ⟨_, _, _, _, _, _⟩) rfl (fun K hK => ?_) AllReadyH.nil
      go_simp
      have H0 : Hid (Rg.OwnG KR (x6.alloc (.cells #[] 60)) w7.heap.size (some ⟨x6.heap.size, 0, none⟩) 0 0 []) := Lib.hid (Rg.own_newG KR x6 _ _ rfl HC.out.size)
      have hb_ := bal (Below.refl x6.heap.size x6) (Nat.le_refl _) (.cells #[] 60)
      replace HP := Lib.hid ((HP.out.below hb_).more hb_.size)
      replace HC := Lib.hid (HC.out.trans (hb_.mono HC.out.size)); clear hb_
      refine hK.out _ _ HC.out (fun hS_ => ?_)
      clear hK K hS_
      have HG0 : Hid ((x6.alloc (.cells #[] 60)).heap[x6.heap.size]? = some (.cells #[] 60)) := Lib.hid (hat _ _ _ rfl)
      generalize x6.alloc (.cells #[] 60) = x7 at HC H0 HG0 HP ⊢
      generalize x6.heap.size = g0 at H0 HG0 ⊢
      try simp only [Act.put, List.setIfInBounds_toArray, List.set_cons_zero, List.set_cons_succ]
      refine wpAnyH_ready (rs := [2]) (by kernel_rfl) (by simp) ?_
      refine AllReadyH.cons (o := ⟨_, _, _, _, _, _⟩) rfl (fun K hK => ?_) AllReadyH.nil
      refine Lgw.op_app0F (.tmp 34) (.tmp 35) rfl g0 rfl HG0.out w7.heap.size A n c l rfl HN.out (HSR.out.2.2.2.2.below HC.out) (by have := HLN.out; omega) ?_
      intro A1 k1 x8 hb_ hor
      have H1 : Hid (Rg.OwnG KR x8 w7.heap.size A1 n k1 l) := Lib.hid (by
        rcases hor with ⟨e1, e2, e3, e4⟩ | h
        · have hn := HN.out
          rw [e1, List.length_nil] at hn
          rw [e1, e2, e3, e4, hn]
          exact H0.out
        · exact h.base HC.out.size)
      clear hor H0 HG0
      replace HP := Lib.hid ((HP.out.below hb_).more hb_.size)
      replace HC := Lib.hid (HC.out.trans (hb_.mono HC.out.size)); clear hb_
      refine hK.out _ _ HC.out (fun hS_ => ?_)
      clear hK K hS_
      try simp only [Act.put, List.setIfInBounds_toArray, List.set_cons_zero, List.set_cons_succ]
      refine wpAnyH_ready (rs := [5]) (by kernel_rfl) (by simp) ?_
      refine AllReadyH.cons (o := ⟨_, _, _, _, _, _⟩) rfl (fun K hK => ?_) AllReadyH.nil
      refine Rg.op_appG (K := KR) (.tmp 36) (.tmp 38) rfl w7.heap.size A1 n k1 l rfl H1.out _ _ 1 1 [r] rfl rfl HP.out (by have := HLN.out; show (n + 1) * 88 ≤ 140737488355328; omega) HC.out.size ?_
      intro A2 k2 x9 ho hb_
      have H2 := Lib.hid ho; clear ho H1 HP
      replace HC := Lib.hid (HC.out.trans hb_); clear hb_
      refine hK.out _ _ HC.out (fun hS_ => ?_)
      clear hK K hS_
      try simp only [Act.put, List.setIfInBounds_toArray, List.set_cons_zero, List.set_cons_succ]
      refine take_in (i := 6) (oi := ⟨_, _, _, _, _, _⟩) (v := ?_) rfl (by kernel_rfl) (by kernel_rfl) (by kernel_rfl) (fun _ _ _ h => h) (by rfl) ?_ HC.out ?_
      rotate_left
      · intro W hW; go_simp; with_reducible rfl
      simp only [Act.put, List.setIfInBounds_toArray, List.set_cons_zero, List.set_cons_succ]
      refine wpAnyH_done (by kernel_rfl) ?_ _
      go_wp2
      go_meet
      case rel => exact ⟨A2, n + 1, k2, rfl, H2.out, HC.out⟩
  case rest =>
    obtain ⟨A2, n2, c2, rfl, ho2, hc2⟩ := hcut
    have HAL : Hid (Sr wc A2 n2 c2 (l ++ [r])) := Lib.hid ⟨ho2.1, ho2.cap, by
      have h1 := ho2.1
      rw [List.length_append, ← HN.out] at h1
      have := HLN.out
      simp only [List.length_cons, List.length_nil] at h1
      omega, fun x hx => (HOK2.out x hx).2.2.2.2, ho2.rs⟩
    have HC := Lib.hid hc2
    clear hc2 ho2
    have HXW : Hid (∀ W, Below wc.heap.size wc W → (W.cell? ⟨gs, 0, none⟩ = some (.slice b0.a b0.n b0.c) ∧ W.cell? ⟨gs, 1, none⟩ = some (.slice c0.a c0.n c0.c) ∧ W.cell? ⟨gs, 2, none⟩ = some (.slice i0.a i0.n i0.c) ∧ W.cell? ⟨gs, 3, none⟩ = some (.int .i64 (s.held.1 : Int)) ∧ W.cell? ⟨gs, 4, none⟩ = some (.int .i64 (s.held.2 : Int)) ∧ W.cell? ⟨gs, 5, none⟩ = some (.int .i64 s.inc) ∧ W.cell? ⟨gs, 6, none⟩ = some (.int .i64 s.last)) ∧ (W.cell? ⟨gt, 0, none⟩ = some (.slice b1.a b1.n b1.c) ∧ W.cell? ⟨gt, 1, none⟩ = some (.slice c1.a c1.n c1.c) ∧ W.cell? ⟨gt, 2, none⟩ = some (.slice i1.a i1.n i1.c) ∧ W.cell? ⟨gt, 3, none⟩ = some (.int .i64 (t.held.1 : Int)) ∧ W.cell? ⟨gt, 4, none⟩ = some (.int .i64 (t.held.2 : Int)) ∧ W.cell? ⟨gt, 5, none⟩ = some (.int .i64 t.inc) ∧ W.cell? ⟨gt, 6, none⟩ = some (.int .i64 t.last)) ∧ W.cell? ⟨gv, 0, none⟩ = some (.int .i64 (v.1 : Int)) ∧ W.cell? ⟨gv, 1, none⟩ = some (.int .i64 (v.2 : Int))) := Lib.hid (fun W hW => HXW.out W (HC.out.trans (hW.mono HC.out.size)))
    have HXR := Lib.hid (HXR.out.all HC.out); have HST := Lib.hid (HST.out.all HC.out); have HST2 := Lib.hid (HST2.out.all HC.out); have HT := Lib.hid (HT.out.all HC.out)
    have HSR := Lib.hid (HSR.out.all HC.out)
    have HB := Lib.hid (HB.out.trans (HC.out.mono HB.out.size))
    have HOF2 := Lib.hid (fun W (hW : Below wc.heap.size wc W) => HOF2.out W (HB.out.trans (hW.mono HB.out.size)))
    have HOF3 := Lib.hid (fun W (hW : Below wc.heap.size wc W) => HOF3.out W A2 n2 c2 (HAL.out.all hW))
    clear HC HX HV
    first | go_upto_region 8 with (fail) | skip
    refine wp_region_held_drew (S := fun W' => Below wc.heap.size wc W') (by kernel_rfl) (Below.refl _ _).drew (fun hHeld => ?_)
    generalize wc.drew = x5 at hHeld ⊢
    have HC : Hid (Below wc.heap.size wc x5) := hHeld
    clear hHeld
    refine take_in (i := 0) (oi := ⟨_, _, _, _, _, _⟩) (v := ?_) rfl (by kernel_rfl) (by kernel_rfl) (by kernel_rfl) (fun _ _ _ h => h) (by rfl) ?_ HC.out ?_
    rotate_left
    · intro W hW; obtain ⟨⟨z0, z1, z2, z3, z4, z5, z6⟩, ⟨q0, q1, q2, q3, q4, q5, q6⟩, y0, y1⟩ := HXW.out W hW; go_simp; with_reducible rfl
    simp only [Act.put, List.setIfInBounds_toArray, List.set_cons_zero, List.set_cons_succ]
    refine take_in (i := 1) (oi := ⟨_, _, _, _, _, _⟩) (v := ?_) rfl (by kernel_rfl) (by kernel_rfl) (by kernel_rfl) (fun _ _ _ h => h) (by rfl) ?_ HC.out ?_
    rotate_left
    · intro W hW; obtain ⟨⟨z0, z1, z2, z3, z4, z5, z6⟩, ⟨q0, q1, q2, q3, q4, q5, q6⟩, y0, y1⟩ := HXW.out W hW; go_simp; with_reducible rfl
    simp only [Act.put, List.setIfInBounds_toArray, List.set_cons_zero, List.set_cons_succ]
    refine take_in (i := 2) (oi := ⟨_, _, _, _, _, _⟩) (v := ?_) rfl (by kernel_rfl) (by kernel_rfl) (by kernel_rfl) (fun _ _ _ h => h) (by rfl) ?_ HC.out ?_
    rotate_left
    · intro W hW; obtain ⟨⟨z0, z1, z2, z3, z4, z5, z6⟩, ⟨q0, q1, q2, q3, q4, q5, q6⟩, y0, y1⟩ := HXW.out W hW; go_simp; with_reducible rfl
    simp only [Act.put, List.setIfInBounds_toArray, List.set_cons_zero, List.set_cons_succ]
    refine wpAnyH_ready (rs := [3]) (by kernel_rfl) (by simp) ?_
    refine AllReadyH.cons (o := ⟨_, _, _, _, _, _⟩) rfl (fun K hK => ?_) AllReadyH.nil
    go_simp
    refine (HOF2.out x5 HC.out).mono ?_
    rintro e x6 ⟨b9, c9, i9, rfl, hst, hb_⟩
    have HST9 := Lib.hid hst; clear hst
    have HC := Lib.hid (HC.out.trans (hb_.mono HC.out.size)); clear hb_
    refine hK.out _ _ HC.out (fun hS_ => ?_)
    clear hK K hS_
    unfold stv
    have HSO := Lib.hid (same_o s s b0 c0 i0 b9 c9 i9 x6 (HST.out.all HC.out) HST9.out)
    rw [sameS_refl] at HSO
    unfold stv at HSO
    refine wpAnyH_ready (rs := [4]) (by kernel_rfl) (by simp) ?_
    refine AllReadyH.cons (o := ⟨_, _, _, _, _, _⟩) rfl (fun K hK => ?_) AllReadyH.nil
    go_simp
    refine HSO.out.mono ?_
    rintro e x7 ⟨rfl, hb_⟩
    have HC := Lib.hid (HC.out.trans (hb_.mono HC.out.size)); clear hb_
    refine hK.out _ _ HC.out (fun hS_ => ?_)
    clear hK K hS_
    clear HST9 HSO
    refine take_in (i := 5) (oi := ⟨_, _, _, _, _, _⟩) (v := ?_) rfl (by kernel_rfl) (by kernel_rfl) (by kernel_rfl) (fun _ _ _ h => h) (by rfl) ?_ HC.out ?_
    rotate_left
    · intro W hW; obtain ⟨⟨z0, z1, z2, z3, z4, z5, z6⟩, ⟨q0, q1, q2, q3, q4, q5, q6⟩, y0, y1⟩ := HXW.out W hW; go_simp; with_reducible rfl
    simp only [Act.put, List.setIfInBounds_toArray, List.set_cons_zero, List.set_cons_succ]
    refine take_in (i := 6) (oi := ⟨_, _, _, _, _, _⟩) (v := ?_) rfl (by kernel_rfl) (by kernel_rfl) (by kernel_rfl) (fun _ _ _ h => h) (by rfl) ?_ HC.out ?_
    rotate_left
    · intro W hW; obtain ⟨⟨z0, z1, z2, z3, z4, z5, z6⟩, ⟨q0, q1, q2, q3, q4, q5, q6⟩, y0, y1⟩ := HXW.out W hW; go_simp; with_reducible rfl
    simp only [Act.put, List.setIfInBounds_toArray, List.set_cons_zero, List.set_cons_succ]
    refine take_in (i := 7) (oi := ⟨_, _, _, _, _, _⟩) (v := ?_) rfl (by kernel_rfl) (by kernel_rfl) (by kernel_rfl) (fun _ _ _ h => h) (by rfl) ?_ HC.out ?_
    rotate_left
    · intro W hW; obtain ⟨⟨z0, z1, z2, z3, z4, z5, z6⟩, ⟨q0, q1, q2, q3, q4, q5, q6⟩, y0, y1⟩ := HXW.out W hW; go_simp; with_reducible rfl
    simp only [Act.put, List.setIfInBounds_toArray, List.set_cons_zero, List.set_cons_succ]
    refine take_in (i := 8) (oi := ⟨_, _, _, _, _, _⟩) (v := ?_) rfl (by kernel_rfl) (by kernel_rfl) (by kernel_rfl) (fun _ _ _ h => h) (by rfl) ?_ HC.out ?_
    rotate_left
    · intro W hW; obtain ⟨⟨z0, z1, z2, z3, z4, z5, z6⟩, ⟨q0, q1, q2, q3, q4, q5, q6⟩, y0, y1⟩ := HXW.out W hW; go_simp; with_reducible rfl
    simp only [Act.put, List.setIfInBounds_toArray, List.set_cons_zero, List.set_cons_succ]
    refine take_in (i := 9) (oi := ⟨_, _, _, _, _, _⟩) (v := ?_) rfl (by kernel_rfl) (by kernel_rfl) (by kernel_rfl) (fun _ _ _ h => h) (by rfl) ?_ HC.out ?_
    rotate_left
    · intro W hW; obtain ⟨⟨z0, z1, z2, z3, z4, z5, z6⟩, ⟨q0, q1, q2, q3, q4, q5, q6⟩, y0, y1⟩ := HXW.out W hW; go_simp; with_reducible rfl
    simp only [Act.put, List.setIfInBounds_toArray, List.set_cons_zero, List.set_cons_succ]
    refine wpAnyH_ready (rs := [10]) (by kernel_rfl) (by simp) ?_
    refine AllReadyH.cons (o := ⟨_, _, _, _, _, _⟩) rfl (fun K hK => ?_) AllReadyH.nil
    go_simp
    refine (HOF3.out x7 HC.out).mono ?_
    rintro e x8 ⟨b9, c9, i9, rfl, hst, hb_⟩
    have HST9 := Lib.hid hst; clear hst
    have HC := Lib.hid (HC.out.trans (hb_.mono HC.out.size)); clear hb_
    refine hK.out _ _ HC.out (fun hS_ => ?_)
    clear hK K hS_
    unfold stv
    have HSO := Lib.hid (same_o t t b1 c1 i1 b9 c9 i9 x8 (HST2.out.all HC.out) HST9.out)
    rw [sameS_refl] at HSO
    unfold stv at HSO
    refine wpAnyH_ready (rs := [11]) (by kernel_rfl) (by simp) ?_
    refine AllReadyH.cons (o := ⟨_, _, _, _, _, _⟩) rfl (fun K hK => ?_) AllReadyH.nil
    go_simp
    refine HSO.out.mono ?_
    rintro e x9 ⟨rfl, hb_⟩
    have HC := Lib.hid (HC.out.trans (hb_.mono HC.out.size)); clear hb_
    refine hK.out _ _ HC.out (fun hS_ => ?_)
    clear hK K hS_
    clear HST9 HSO
    refine take_in (i := 12) (oi := ⟨_, _, _, _, _, _⟩) (v := ?_) rfl (by kernel_rfl) (by kernel_rfl) (by kernel_rfl) (fun _ _ _ h => h) (by rfl) ?_ HC.out ?_
    rotate_left
    · intro W hW; go_simp; with_reducible rfl
    simp only [Act.put, List.setIfInBounds_toArray, List.set_cons_zero, List.set_cons_succ]
    refine take_in (i := 13) (oi := ⟨_, _, _, _, _, _⟩) (v := ?_) rfl (by kernel_rfl) (by kernel_rfl) (by kernel_rfl) (fun _ _ _ h => h) (by rfl) ?_ HC.out ?_
    rotate_left
    · intro W hW; go_simp; with_reducible rfl
    simp only [Act.put, List.setIfInBounds_toArray, List.set_cons_zero, List.set_cons_succ]
    refine wpAnyH_done (by kernel_rfl) ?_ _
    go_upto_region 10 with (fail)
    have HBK := Lib.hid (fun W (hW : Below wc.heap.size wc W) => book_c t b1 c1 i1 W (HST2.out.all hW) HWF2.out (rvw r) (okr_view HOR.out).2.1)
    have HNB := Lib.hid (book_lenF (bookS_book HWF2.out (rvw r)).1)
    have HXV : Hid (∀ W, Below wc.heap.size wc W → (W.cell? ⟨gt, 0, none⟩ = some (.slice b1.a b1.n b1.c) ∧ W.cell? ⟨gt, 1, none⟩ = some (.slice c1.a c1.n c1.c) ∧ W.cell? ⟨gt, 2, none⟩ = some (.slice i1.a i1.n i1.c) ∧ W.cell? ⟨gt, 3, none⟩ = some (.int .i64 (t.held.1 : Int)) ∧ W.cell? ⟨gt, 4, none⟩ = some (.int .i64 (t.held.2 : Int)) ∧ W.cell? ⟨gt, 5, none⟩ = some (.int .i64 t.inc) ∧ W.cell? ⟨gt, 6, none⟩ = some (.int .i64 t.last)) ∧ W.cell? ⟨gr, 1, none⟩ = some (.int .i64 ((rvw r).1 : Int)) ∧ W.cell? ⟨gr, 2, none⟩ = some (.int .i64 ((rvw r).2 : Int))) := Lib.hid (fun W hW => by
      obtain ⟨y0, y1, y2, y3, y4, y5, y6, y7, y8, y9, y10⟩ := (HXR.out.all hW).cs
      rw [(okr_view HOR.out).1.1] at y1
      rw [(okr_view HOR.out).1.2] at y2
      exact ⟨(HT.out.all hW).cs, y1, y2⟩)
    unfold stv vw at HBK
    generalize bookS t (rvw r) = es at HBK HNB
    obtain ⟨⟨q0, q1, q2, q3, q4, q5, q6⟩, y1, y2⟩ := HXV.out x9 HC.out
    go_wp2_with fail
    refine (HBK.out x9 HC.out).mono ?_
    rintro e x10 ⟨A3, n3, c3, rfl, ho3, hb_⟩
    have HL := Lib.hid ho3.1
    have hl3 : n3 ≤ 4398046511104 := by have h1 := HNB.out; rw [← HL.out] at h1; omega
    have HC := Lib.hid (HC.out.trans (hb_.mono HC.out.size)); clear hb_ ho3 q0 q1 q2 q3 q4 q5 q6 y1 y2
    go_wp2
    go_loopw [59] (fun ix wr => ∃ k : Nat, ix = .int .i64 k ∧ k ≤ n3 ∧ Below wc.heap.size wc wr) (fun ix _ => n3 - (intOf ix).toNat)
    case atStart => exact ⟨0, rfl, by omega, HC.out⟩
    case round =>
      clear HC
      rename World => wl
      obtain ⟨k, rfl, hk, hc⟩ := hrel
      have HC := Lib.hid hc; clear hc
      by_cases h : k < n3
      · obtain ⟨⟨q0, q1, q2, q3, q4, q5, q6⟩, y1, y2⟩ := HXV.out wl HC.out
        go_wp2_with fail
        refine (HBK.out wl HC.out).mono ?_
        rintro e x11 ⟨A4, n4, c4, rfl, ho4, hb_⟩
        have hn4 : n4 = n3 := ho4.1.trans HL.out.symm
        obtain ⟨g, rfl, hglt⟩ := ho4.at0 (by omega)
        obtain ⟨hgb, hnc, hcm, cur, hh, hcs, htk⟩ := ho4.row
        rw [show KEE.k = 4 from rfl] at hcs
        obtain ⟨u, hu⟩ : ∃ u, cur[k * 4]? = some u := ⟨_, Array.getElem?_eq_getElem (by omega)⟩
        have hcell : x11.cell? ⟨g, k * 4, none⟩ = some u := by rw [cell_of_row _ _ _ _ _ _ hh]; exact hu
        have hfz : x11.frozen? ⟨g, k * 4, none⟩ = false := frozen_of_row x11 g _ _ _ hh
        have HC2 := Lib.hid ((HC.out.trans (hb_.mono HC.out.size)).setCell (p := ⟨g, k * 4, none⟩) (Nat.le_trans HC.out.size hgb) (.int .i64 99))
        clear hb_ hh hcs htk hu hcm hgb hglt ho4 HC q0 q1 q2 q3 q4 q5 q6 y1 y2
        subst hn4
        go_wp2
        exact ⟨⟨k + 1, by go_num, by omega, HC2.out⟩, by simp [intOf]; omega⟩
      · have hnlt : ¬ ((k : Int) < (n3 : Int)) := by omega
        clear h hk
        have HSC := Lib.hid (fun W (hW : Below wc.heap.size wc W) => same_c s b0 c0 i0 t b1 c1 i1 W (HST.out.all hW) (HST2.out.all hW) HWF.out)
        have HSD := Lib.hid (fun W (hW : Below wc.heap.size wc W) => same_o s t b0 c0 i0 b1 c1 i1 W (HST.out.all hW) (HST2.out.all hW))
        unfold stv at HSC HSD
        generalize sameS s t = bb at HSC HSD
        go_upto_region 16 with (fail)
        refine wp_region_held_drew (S := fun W' => Below wc.heap.size wc W') (by kernel_rfl) HC.out.drew (fun hHeld => ?_)
        clear HC
        generalize wl.drew = x5 at hHeld ⊢
        have HC : Hid (Below wc.heap.size wc x5) := hHeld
        clear hHeld
        refine take_in (i := 0) (oi := ⟨_, _, _, _, _, _⟩) (v := ?_) rfl (by kernel_rfl) (by kernel_rfl) (by kernel_rfl) (fun _ _ _ h => h) (by rfl) ?_ HC.out ?_
        rotate_left
        · intro W hW; obtain ⟨⟨z0, z1, z2, z3, z4, z5, z6⟩, ⟨q0, q1, q2, q3, q4, q5, q6⟩, y0, y1⟩ := HXW.out W hW; go_simp; with_reducible rfl
        simp only [Act.put, List.setIfInBounds_toArray, List.set_cons_zero, List.set_cons_succ]
        refine take_in (i := 1) (oi := ⟨_, _, _, _, _, _⟩) (v := ?_) rfl (by kernel_rfl) (by kernel_rfl) (by kernel_rfl) (fun _ _ _ h => h) (by rfl) ?_ HC.out ?_
        rotate_left
        · intro W hW; obtain ⟨⟨z0, z1, z2, z3, z4, z5, z6⟩, ⟨q0, q1, q2, q3, q4, q5, q6⟩, y0, y1⟩ := HXW.out W hW; go_simp; with_reducible rfl
        simp only [Act.put, List.setIfInBounds_toArray, List.set_cons_zero, List.set_cons_succ]
        refine take_in (i := 2) (oi := ⟨_, _, _, _, _, _⟩) (v := ?_) rfl (by kernel_rfl) (by kernel_rfl) (by kernel_rfl) (fun _ _ _ h => h) (by rfl) ?_ HC.out ?_
        rotate_left
        · intro W hW; obtain ⟨⟨z0, z1, z2, z3, z4, z5, z6⟩, ⟨q0, q1, q2, q3, q4, q5, q6⟩, y0, y1⟩ := HXW.out W hW; go_simp; with_reducible rfl
        simp only [Act.put, List.setIfInBounds_toArray, List.set_cons_zero, List.set_cons_succ]
        refine wpAnyH_ready (rs := [3]) (by kernel_rfl) (by simp) ?_
        refine AllReadyH.cons (o := ⟨_, _, _, _, _, _⟩) rfl (fun K hK => ?_) AllReadyH.nil
        go_simp
        refine (HOF3.out x5 HC.out).mono ?_
        rintro e x6 ⟨b9, c9, i9, rfl, hst, hb_⟩
        have HST9 := Lib.hid hst; clear hst
        have HC := Lib.hid (HC.out.trans (hb_.mono HC.out.size)); clear hb_
        refine hK.out _ _ HC.out (fun hS_ => ?_)
        clear hK K hS_
        unfold stv
        have HSO := Lib.hid (same_o t t b1 c1 i1 b9 c9 i9 x6 (HST2.out.all HC.out) HST9.out)
        rw [sameS_refl] at HSO
        unfold stv at HSO
        refine wpAnyH_ready (rs := [4]) (by kernel_rfl) (by simp) ?_
        refine AllReadyH.cons (o := ⟨_, _, _, _, _, _⟩) rfl (fun K hK => ?_) AllReadyH.nil
        go_simp
        refine HSO.out.mono ?_
        rintro e x7 ⟨rfl, hb_⟩
        have HC := Lib.hid (HC.out.trans (hb_.mono HC.out.size)); clear hb_
        refine hK.out _ _ HC.out (fun hS_ => ?_)
        clear hK K hS_
        clear HST9 HSO
        refine take_in (i := 5) (oi := ⟨_, _, _, _, _, _⟩) (v := ?_) rfl (by kernel_rfl) (by kernel_rfl) (by kernel_rfl) (fun _ _ _ h => h) (by rfl) ?_ HC.out ?_
        rotate_left
        · intro W hW; obtain ⟨⟨z0, z1, z2, z3, z4, z5, z6⟩, ⟨q0, q1, q2, q3, q4, q5, q6⟩, y0, y1⟩ := HXW.out W hW; go_simp; with_reducible rfl
        simp only [Act.put, List.setIfInBounds_toArray, List.set_cons_zero, List.set_cons_succ]
        refine take_in (i := 6) (oi := ⟨_, _, _, _, _, _⟩) (v := ?_) rfl (by kernel_rfl) (by kernel_rfl) (by kernel_rfl) (fun _ _ _ h => h) (by rfl) ?_ HC.out ?_
        rotate_left
        · intro W hW; obtain ⟨⟨z0, z1, z2, z3, z4, z5, z6⟩, ⟨q0, q1, q2, q3, q4, q5, q6⟩, y0, y1⟩ := HXW.out W hW; go_simp; with_reducible rfl
        simp only [Act.put, List.setIfInBounds_toArray, List.set_cons_zero, List.set_cons_succ]
        refine take_in (i := 7) (oi := ⟨_, _, _, _, _, _⟩) (v := ?_) rfl (by kernel_rfl) (by kernel_rfl) (by kernel_rfl) (fun _ _ _ h => h) (by rfl) ?_ HC.out ?_
        rotate_left
        · intro W hW; obtain ⟨⟨z0, z1, z2, z3, z4, z5, z6⟩, ⟨q0, q1, q2, q3, q4, q5, q6⟩, y0, y1⟩ := HXW.out W hW; go_simp; with_reducible rfl
        simp only [Act.put, List.setIfInBounds_toArray, List.set_cons_zero, List.set_cons_succ]
        refine take_in (i := 9) (oi := ⟨_, _, _, _, _, _⟩) (v := ?_) rfl (by kernel_rfl) (by kernel_rfl) (by kernel_rfl) (fun _ _ _ h => h) (by rfl) ?_ HC.out ?_
        rotate_left
        · intro W hW; obtain ⟨⟨z0, z1, z2, z3, z4, z5, z6⟩, ⟨q0, q1, q2, q3, q4, q5, q6⟩, y0, y1⟩ := HXW.out W hW; go_simp; with_reducible rfl
        simp only [Act.put, List.setIfInBounds_toArray, List.set_cons_zero, List.set_cons_succ]
        refine take_in (i := 10) (oi := ⟨_, _, _, _, _, _⟩) (v := ?_) rfl (by kernel_rfl) (by kernel_rfl) (by kernel_rfl) (fun _ _ _ h => h) (by rfl) ?_ HC.out ?_
        rotate_left
        · intro W hW; obtain ⟨⟨z0, z1, z2, z3, z4, z5, z6⟩, ⟨q0, q1, q2, q3, q4, q5, q6⟩, y0, y1⟩ := HXW.out W hW; go_simp; with_reducible rfl
        simp only [Act.put, List.setIfInBounds_toArray, List.set_cons_zero, List.set_cons_succ]
        refine wpAnyH_ready (rs := [8]) (by kernel_rfl) (by simp) ?_
        refine AllReadyH.cons (o := ⟨_, _, _, _, _, _⟩) rfl (fun K hK => ?_) AllReadyH.nil
        go_simp
        refine (HSC.out x7 HC.out).mono ?_
        rintro e x8 ⟨rfl, hb_⟩
        have HC := Lib.hid (HC.out.trans (hb_.mono HC.out.size)); clear hb_
        refine hK.out _ _ HC.out (fun hS_ => ?_)
        clear hK K hS_
        refine wpAnyH_ready (rs := [11]) (by kernel_rfl) (by simp) ?_
        refine AllReadyH.cons (o := ⟨_, _, _, _, _, _⟩) rfl (fun K hK => ?_) AllReadyH.nil
        go_simp
        refine (HSD.out x8 HC.out).mono ?_
        rintro e x9 ⟨rfl, hb_⟩
        have HC := Lib.hid (HC.out.trans (hb_.mono HC.out.size)); clear hb_
        refine hK.out _ _ HC.out (fun hS_ => ?_)
        clear hK K hS_
        refine take_in (i := 12) (oi := ⟨_, _, _, _, _, _⟩) (v := ?_) rfl (by kernel_rfl) (by kernel_rfl) (by kernel_rfl) (fun _ _ _ h => h) (by rfl) ?_ HC.out ?_
        rotate_left
        · intro W hW; go_simp; with_reducible rfl
        simp only [Act.put, List.setIfInBounds_toArray, List.set_cons_zero, List.set_cons_succ]
        refine take_in (i := 13) (oi := ⟨_, _, _, _, _, _⟩) (v := ?_) rfl (by kernel_rfl) (by kernel_rfl) (by kernel_rfl) (fun _ _ _ h => h) (by rfl) ?_ HC.out ?_
        rotate_left
        · intro W hW; go_simp; with_reducible rfl
        simp only [Act.put, List.setIfInBounds_toArray, List.set_cons_zero, List.set_cons_succ]
        refine take_in (i := 14) (oi := ⟨_, _, _, _, _, _⟩) (v := ?_) rfl (by kernel_rfl) (by kernel_rfl) (by kernel_rfl) (fun _ _ _ h => h) (by rfl) ?_ HC.out ?_
        rotate_left
        · intro W hW; go_simp; with_reducible rfl
        simp only [Act.put, List.setIfInBounds_toArray, List.set_cons_zero, List.set_cons_succ]
        refine wpAnyH_done (by kernel_rfl) ?_ _
        go_wp2
        go_ret
        exact ⟨by simp, HB.out.trans (HC.out.mono HB.out.size)⟩
end Go.Proofs.YtfblnomkafimhaaGreat.foldSteps

namespace Go.Proofs.YtfblnomkafimhaaGreat
set_option maxRecDepth 20000
open Go.ChangeShapes Go.WideShapes Go.ChangeAt Go.RowKit

theorem open_i64 {H : Type} {enc : TypeId × Value → H} {W : World} {b0 : Nat} {t e : TypeId} {v : Value} {d : DataW H} {p : List MemPlace} (ht : Tryz.prog.underlying t = some (.slice e)) (he : Tryz.prog.underlying e = some (.int .i64)) (hc : Tryz.prog.cellsOf e = 1)
    (hval : Value.okWide Tryz.prog W .any b0 t v) (h : DataW.Trod enc Tryz.prog W 0 (fun _ => true) true t v d p) (hlt : ∀ x ∈ p, x.block < W.heap.size) :
    ∃ A n c, ∃ zs : List Int, v = .slice A n c ∧ n = zs.length ∧ n ≤ c ∧ Rd W W.heap.size A (zs.map (Value.int .i64)) ∧ (∀ z ∈ zs, (Lit.int .i64 z).wf = true) ∧ Places d c := by
  obtain ⟨A, n, c, zs, hv, hn, hnc, _, hr, hw, hd⟩ := open_zs ht he hc hval h hlt
  exact ⟨A, n, c, zs, hv, hn, hnc, hr, hw, hd⟩

theorem open_view {H : Type} {enc : TypeId × Value → H} {W : World} {b0 : Nat} {v : Value} {d : DataW H} {p : List MemPlace}
    (hval : Value.okWide Tryz.prog W .any b0 26 v) (h : DataW.Trod enc Tryz.prog W 0 (fun _ => true) true 26 v d p) :
    ∃ a b : Int, v = .agg #[.int .i64 a, .int .i64 b] ∧ (Lit.int .i64 a).wf = true ∧ (Lit.int .i64 b).wf = true := by
  obtain ⟨v0, v1, y0, y1, n, rfl, _, _, h0, h1⟩ := Go.Joins.open_agg2 (P := Tryz.prog) Tryz.underlying26 (by kernel_rfl) (by kernel_rfl) hval h
  obtain ⟨a, ea, _, wa⟩ := DataW.trod_int Tryz.underlying3 h0
  obtain ⟨b, eb, _, wb⟩ := DataW.trod_int Tryz.underlying3 h1
  simp only [List.cons.injEq, and_true] at ea eb
  exact ⟨a, b, by rw [ea, eb], wa, wb⟩
end Go.Proofs.YtfblnomkafimhaaGreat

namespace Go.Proofs.YtfblnomkafimhaaGreat
open Go.ChangeShapes Go.WideShapes Go.ChangeAt Go.RowKit

theorem foldSteps_own : ownKnob Tryz.prog.godebug = none := by kernel_rfl
theorem foldSteps_laid : laidOutB Tryz.prog = true := by kernel_rfl

set_option maxRecDepth 100000 in
theorem foldSteps_lifted (os : Os) (started : os.Started) (H : Type) (enc : TypeId × Value → H) :
    ReturnsInHanded {} Tryz.checked os 5 .any (Rows.foldStepsSpec.pre6 enc Tryz.prog Tryz.f5 Rows.foldStepsRow.domain false) (Rows.foldStepsSpec.post enc Tryz.prog Tryz.f5 false true false false) := by
  refine returnsInHanded_of_change_sized (C := Tryz.checked) foldSteps_own started (by kernel_rfl) Tryz.func5
    (ChangeSpec.witness6 (enc := enc) (C := Tryz.checked) false ⟨#[], #[.agg #[.int .i64 0, .int .i64 0], .slice none 0 0, .agg #[.int .i64 0, .int .i64 0, .int .i64 0, .int .i64 0, .int .i64 0, .int .i64 0, .int .i64 0, .int .i64 0, .int .i64 0, .float .f64 0, .int .i64 0]], []⟩ 8 (by kernel_rfl) (by kernel_rfl) (by kernel_rfl) (by kernel_rfl)) ?_
  intro W base args ds gs before hval0 hW _ hsz0 _
  have hsz : (DataW.weightsEach Tryz.prog (Tryz.f5.params.toList ++ Rows.foldStepsSpec.plain.varTypes Tryz.prog) (ds ++ gs)).all (· ≤ reachBytes) = true := hsz0
  have hval : ∀ (j : Nat) t v, Tryz.f5.params[j]? = some t → args[j]? = some v → Value.okWide Tryz.prog W .any base t v := hval0
  have hW' := hW
  obtain ⟨p, q, hA0, hV, rfl, hfz, hnd⟩ := hW
  have hA : DataW.TrodAll enc Tryz.prog W 0 (fun _ => true) true Tryz.f5.params.toList args.toList ds p := hA0
  rw [Tryz.params5] at hA hval hsz
  obtain ⟨v0, vs0, d0, ds0, p0, q0, hargs, rfl, rfl, h0, r0⟩ := trodAll_cons hA
  obtain ⟨v1, vs1, d1, ds1, p1, q1, rfl, rfl, rfl, h1, r1⟩ := trodAll_cons r0
  obtain ⟨v2, vs2, d2, ds2, p2, q2, rfl, rfl, rfl, h2, r2⟩ := trodAll_cons r1
  obtain ⟨rfl, rfl, rfl⟩ := trodAll_nil r2
  obtain rfl : args = #[v0, v1, v2] := by cases args; simp_all
  obtain ⟨rfl, rfl⟩ := trodVars_none hV
  clear hA0 hval0
  simp only [List.append_nil] at hW'
  have hk0 := h0
  have hlt0 : ∀ x ∈ p0, x.block < W.heap.size := (fun x hx => by have := hW'.lt x (by simp [hx]); simpa using this)
  obtain ⟨a0, b0, rfl, wa0, wb0⟩ := open_view (hval 0 26 v0 rfl rfl) h0
  have hk1 := h1
  have hlt1 : ∀ x ∈ p1, x.block < W.heap.size := (fun x hx => by have := hW'.lt x (by simp [hx]); simpa using this)
  obtain ⟨A1, n1, c1, l1, rfl, hn1, hc1, hr1, hw1, hd1⟩ := open_recs Tryz.underlying40 (hval 1 40 v1 rfl rfl) h1 hlt1
  have hb1 := sized_places hsz (j := 1) rfl rfl Tryz.underlying40 hd1
  rw [show Tryz.prog.bytesOf 60 = 88 from by kernel_rfl] at hb1
  have hk2 := h2
  have hlt2 : ∀ x ∈ p2, x.block < W.heap.size := (fun x hx => by have := hW'.lt x (by simp [hx]); simpa using this)
  obtain ⟨re2, rfl, hw2⟩ := open_rec (hval 2 60 v2 rfl rfl) h2
  refine (foldSteps.walk W a0 wa0 b0 wb0 A1 n1 c1 l1 ⟨hn1, hc1, by omega, fun r hr => (hw1 r hr).2.2.2, hr1⟩ hw1 re2 hw2).mono fun e W' ⟨he, hb⟩ => ?_
  subst he
  exact ⟨_, rfl, _, _, _, [], _, [], hW', trodAll_cons_mk (shut_bool Tryz.underlying4 _) trodAll_mk0, (trodAll_cons_mk (Below.trod foldSteps_laid (by kernel_rfl) (of_decide_eq_true (by kernel_rfl)) hk0 hb hlt0) (trodAll_cons_mk (Below.trod foldSteps_laid (by kernel_rfl) (of_decide_eq_true (by kernel_rfl)) hk1 hb hlt1) (trodAll_cons_mk (Below.trod foldSteps_laid (by kernel_rfl) (of_decide_eq_true (by kernel_rfl)) hk2 hb hlt2) trodAll_mk0))), rfl, hb.frame _, fun h => by cases h⟩

theorem foldSteps_proved : Rows.FoldStepsSaid :=
  OpenClaim.holds_of_wide 5 Tryz.f5 rfl rfl rfl rfl rfl rfl rfl ⟨rfl, rfl, rfl, rfl, rfl⟩ rfl rfl rfl rfl rfl (by kernel_rfl) Tryz.func5 (by kernel_rfl)
    (of_decide_eq_true (by kernel_rfl)) (by unfold Func.isWrapper; first | (rw [if_pos (by decide +kernel)]; kernel_rfl) | (rw [if_neg (by decide +kernel)]; exact ⟨rfl, rfl⟩))
    (fun os started H enc _ => foldSteps_lifted os started H enc)
#print axioms foldSteps_proved
end Go.Proofs.YtfblnomkafimhaaGreat
