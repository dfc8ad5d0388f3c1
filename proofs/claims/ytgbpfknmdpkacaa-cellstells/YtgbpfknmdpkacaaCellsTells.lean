/- Of any two lists that can be cells the program's Check, Of, Merge, News, Changes and Clash answer as the document does, and leave them as they were. Conditions: none. -/
import Derived.Test.YtgbpfknmdpkacaaRows
import Derived.Test.YtgbpfknmdpkacaaG17
import Derived.Test.YtgbpfknmdpkacaaG20
import Derived.Test.YtgbpfknmdpkacaaG22
import Derived.WalkKit
import Derived.ProofKit
import Derived.OpenShut
import Derived.Laws.Cover2
import Derived.SizedLaws
import Derived.JoinedCond
import Derived.Carry
set_option linter.unusedSimpArgs false
set_option linter.unusedVariables false
namespace Go.Proofs.Ytgbpfknmdpkacaa.cellsTells
set_option maxRecDepth 20000
open Go.RowKit
open Chg Vw Cl Clw
open Chgw (hat hbe ret_bool vw Vi Vx)
open Rg (bal)

set_option maxRecDepth 100000 in
set_option maxHeartbeats 2000000 in
theorem walk (w : World) (A : Option Addr) (n c : Nat) (es : List C) (ha : Sc w A n c es) (A2 : Option Addr) (n2 c2 : Nat) (fs : List C) (hb : Sc w A2 n2 c2 fs) (node : Int) (_hnode : (Lit.int .i64 node).wf = true) :
    Calls Try.prog 4 #[.slice A n c, .slice A2 n2 c2, .int .i64 node] w fun e w' => e = .returned (.bool true) ∧ Below w.heap.size w w' := by
  have heq := Chgw.eq_view
  have HA := Lib.hid ha; have HF := Lib.hid hb
  clear ha hb
  have HB := Lib.hid (Below.refl w.heap.size w)
  go_enter Try.func4, Try.ntmps4
  go_wp2_with fail
  refine (cells_alive_c _).mono ?_
  rintro e w1 ⟨rfl, hb⟩
  have HA := Lib.hid (HA.out.all hb)
  have HF := Lib.hid (HF.out.all hb)
  have HB := Lib.hid (HB.out.trans (hb.mono HB.out.size)); clear hb
  obtain ⟨r, hr⟩ : ∃ r, r = chkM es := ⟨_, rfl⟩
  have HRC := Lib.hid hr; clear hr
  go_wp2_with fail
  refine (check_c A n c es _ HA.out).mono ?_
  rw [← HRC.out]
  rintro e w2 ⟨rfl, hb⟩
  have HA := Lib.hid (HA.out.all hb)
  have HF := Lib.hid (HF.out.all hb)
  have HB := Lib.hid (HB.out.trans (hb.mono HB.out.size)); clear hb
  go_wp2_with fail
  refine (check_o A n c es _ HA.out).mono ?_
  rw [← HRC.out]
  rintro e w3 ⟨rfl, hb⟩
  have HA := Lib.hid (HA.out.all hb)
  have HF := Lib.hid (HF.out.all hb)
  have HB := Lib.hid (HB.out.trans (hb.mono HB.out.size)); clear hb
  go_wp2_with fail
  refine (check_o A n c es _ HA.out).mono ?_
  rintro e w4 ⟨rfl, hb⟩
  have HA := Lib.hid (HA.out.all hb)
  have HF := Lib.hid (HF.out.all hb)
  have HB := Lib.hid (HB.out.trans (hb.mono HB.out.size)); clear hb
  clear HRC
  cases hbk : isCl es with
  | false =>
    rw [chkM_no hbk]
    clear hbk
    go_wp2
    go_ret
    exact ⟨rfl, HB.out⟩
  | true =>
  rw [chkM_yes hbk]
  have B1 := Lib.hid hbk; clear hbk
  go_wp2_with fail
  refine (check_o A2 n2 c2 fs _ HF.out).mono ?_
  rintro e w5 ⟨rfl, hb⟩
  have HA := Lib.hid (HA.out.all hb)
  have HF := Lib.hid (HF.out.all hb)
  have HB := Lib.hid (HB.out.trans (hb.mono HB.out.size)); clear hb
  cases hbk : isCl fs with
  | false =>
    rw [chkM_no hbk]
    clear hbk
    go_wp2
    go_ret
    exact ⟨rfl, HB.out⟩
  | true =>
  rw [chkM_yes hbk]
  have B2 := Lib.hid hbk; clear hbk
  go_wp2_with (first
    | (at_builtin; refine wp_copyC rfl (.tmp 30) (.tmp 31) rfl w5 rfl A n c es rfl HA.out ?_; intro A4 c4 wx hs4 hb4)
    | (at_builtin; refine wp_copyC rfl (.tmp 33) (.tmp 34) rfl wx rfl A2 n2 c2 fs rfl (HF.out.all hb4) ?_; intro A5 c5 wy hs5 hb5))
  have hb := hb4.trans (hb5.mono hb4.size)
  have HA := Lib.hid (HA.out.all hb); have HF := Lib.hid (HF.out.all hb)
  have HX := Lib.hid (hs4.all hb5); have HY := Lib.hid hs5
  have HB := Lib.hid (HB.out.trans (hb.mono HB.out.size)); clear hb
  clear hs4 hs5 hb4 hb5
  obtain ⟨va, hva⟩ : ∃ r, r = (getC es node).2.1 := ⟨_, rfl⟩
  obtain ⟨vd, hvd⟩ : ∃ r, r = (getC es node).2.2 := ⟨_, rfl⟩
  obtain ⟨vb, hvb⟩ : ∃ r, r = hasC es node := ⟨_, rfl⟩
  have HGA := Lib.hid hva; have HGD := Lib.hid hvd; have HGB := Lib.hid hvb; clear hva hvd hvb
  refine (of_c A4 n c4 es node _ HX.out).mono ?_
  rw [← HGA.out, ← HGD.out, ← HGB.out]
  rintro e w6 ⟨rfl, hb⟩
  have HA := Lib.hid (HA.out.all hb)
  have HF := Lib.hid (HF.out.all hb)
  have HX := Lib.hid (HX.out.all hb)
  have HY := Lib.hid (HY.out.all hb)
  have HB := Lib.hid (HB.out.trans (hb.mono HB.out.size)); clear hb
  unfold vw
  go_wp2_with fail
  have hb := bal (Below.refl w6.heap.size w6) (Nat.le_refl _) (.cells #[.int .i64 va, .int .i64 vd] 31)
  have HA := Lib.hid (HA.out.all hb)
  have HF := Lib.hid (HF.out.all hb)
  have HX := Lib.hid (HX.out.all hb)
  have HY := Lib.hid (HY.out.all hb)
  have HV := Lib.hid (show Vi (w6.alloc (.cells #[.int .i64 va, .int .i64 vd] 31)) w6.heap.size va vd from hat _ _ _ rfl)
  have HB := Lib.hid (HB.out.trans (hb.mono HB.out.size)); clear hb
  generalize w6.alloc (.cells #[.int .i64 va, .int .i64 vd] 31) = wv at HA HF HX HY HV HB ⊢
  generalize w6.heap.size = gv at HV ⊢
  refine (of_o A n c es node _ HA.out).mono ?_
  rw [← HGA.out, ← HGD.out, ← HGB.out]
  rintro e w7 ⟨rfl, hb⟩
  have HA := Lib.hid (HA.out.all hb)
  have HF := Lib.hid (HF.out.all hb)
  have HX := Lib.hid (HX.out.all hb)
  have HY := Lib.hid (HY.out.all hb)
  have HV := Lib.hid (HV.out.below hb)
  have HB := Lib.hid (HB.out.trans (hb.mono HB.out.size)); clear hb
  unfold vw
  clear HGA HGD HGB
  have x0 : (w7.alloc (.cells #[.int .i64 va, .int .i64 vd] 31)).cell? ⟨gv, 0, none⟩ = some (.int .i64 va) := Vi.c0 (hbe HV.out)
  have x1 : (w7.alloc (.cells #[.int .i64 va, .int .i64 vd] 31)).cell? ⟨gv, 1, none⟩ = some (.int .i64 vd) := Vi.c1 (hbe HV.out)
  go_wp2_with fail
  clear x0 x1 HV
  have hb := bal (Below.refl w7.heap.size w7) (Nat.le_refl _) (.cells #[.int .i64 va, .int .i64 vd] 31)
  have HA := Lib.hid (HA.out.all hb)
  have HF := Lib.hid (HF.out.all hb)
  have HX := Lib.hid (HX.out.all hb)
  have HY := Lib.hid (HY.out.all hb)
  have HB := Lib.hid (HB.out.trans (hb.mono HB.out.size)); clear hb
  generalize w7.alloc (.cells #[.int .i64 va, .int .i64 vd] 31) = wv at HA HF HX HY HB ⊢
  refine (merge_c A4 n c4 es A5 n2 c5 fs _ HX.out HY.out).mono ?_
  rintro e w8 ⟨A6, n6, c6, rfl, hs, hb⟩
  have HA := Lib.hid (HA.out.all hb)
  have HF := Lib.hid (HF.out.all hb)
  have HX := Lib.hid (HX.out.all hb)
  have HY := Lib.hid (HY.out.all hb)
  have HM := Lib.hid hs
  clear hs
  have HB := Lib.hid (HB.out.trans (hb.mono HB.out.size)); clear hb
  go_wp2_with fail
  refine (merge_r A n c es A2 n2 c2 fs _ HA.out HF.out).mono ?_
  rintro e w9 ⟨A7, n7, c7, rfl, hs, hb⟩
  have HA := Lib.hid (HA.out.all hb)
  have HF := Lib.hid (HF.out.all hb)
  have HX := Lib.hid (HX.out.all hb)
  have HY := Lib.hid (HY.out.all hb)
  have HM := Lib.hid (HM.out.all hb)
  have HR := Lib.hid hs
  clear hs
  have HB := Lib.hid (HB.out.trans (hb.mono HB.out.size)); clear hb
  go_wp2_with fail
  refine (same_o A6 n6 c6 _ A7 n7 c7 _ _ HM.out HR.out).mono ?_
  rw [sameC_refl]
  rintro e w10 ⟨rfl, hb⟩
  have HA := Lib.hid (HA.out.all hb)
  have HF := Lib.hid (HF.out.all hb)
  have HX := Lib.hid (HX.out.all hb)
  have HY := Lib.hid (HY.out.all hb)
  have HB := Lib.hid (HB.out.trans (hb.mono HB.out.size)); clear hb
  go_wp2_with fail
  refine (news_c A4 n c4 es A5 n2 c5 fs _ HX.out HY.out B2.out).mono ?_
  rintro e w11 ⟨A8, n8, c8, rfl, hs, hb⟩
  have HA := Lib.hid (HA.out.all hb)
  have HF := Lib.hid (HF.out.all hb)
  have HX := Lib.hid (HX.out.all hb)
  have HY := Lib.hid (HY.out.all hb)
  have HM2 := Lib.hid hs
  clear hs
  have HB := Lib.hid (HB.out.trans (hb.mono HB.out.size)); clear hb
  go_wp2_with fail
  refine (news_r A n c es A2 n2 c2 fs _ HA.out HF.out).mono ?_
  rintro e w12 ⟨A9, n9, c9, rfl, hs, hb⟩
  have HA := Lib.hid (HA.out.all hb)
  have HF := Lib.hid (HF.out.all hb)
  have HX := Lib.hid (HX.out.all hb)
  have HY := Lib.hid (HY.out.all hb)
  have HM2 := Lib.hid (HM2.out.all hb)
  have HR2 := Lib.hid hs
  clear hs
  have HB := Lib.hid (HB.out.trans (hb.mono HB.out.size)); clear hb
  go_wp2_with fail
  refine (same_o A8 n8 c8 _ A9 n9 c9 _ _ HM2.out HR2.out).mono ?_
  rw [sameC_refl]
  rintro e w13 ⟨rfl, hb⟩
  have HA := Lib.hid (HA.out.all hb)
  have HF := Lib.hid (HF.out.all hb)
  have HX := Lib.hid (HX.out.all hb)
  have HY := Lib.hid (HY.out.all hb)
  have HB := Lib.hid (HB.out.trans (hb.mono HB.out.size)); clear hb
  go_wp2_with fail
  refine (changes_c A4 n c4 es _ HX.out B1.out).mono ?_
  rintro e w14 ⟨A10, n10, c10, m10, rfl, hs1, hv1, hb⟩
  have HA := Lib.hid (HA.out.all hb)
  have HF := Lib.hid (HF.out.all hb)
  have HX := Lib.hid (HX.out.all hb)
  have HY := Lib.hid (HY.out.all hb)
  have HB := Lib.hid (HB.out.trans (hb.mono HB.out.size)); clear hb
  have HV1 := Lib.hid hv1; have HS1 := Lib.hid hs1; clear hv1 hs1
  go_wp2_with fail
  refine (changes_o A n c es _ HA.out B1.out).mono ?_
  rintro e w15 ⟨A11, n11, c11, m11, rfl, hs1, hv1, hb⟩
  have HA := Lib.hid (HA.out.all hb)
  have HF := Lib.hid (HF.out.all hb)
  have HX := Lib.hid (HX.out.all hb)
  have HY := Lib.hid (HY.out.all hb)
  have HV1 := Lib.hid (HV1.out.all hb)
  have HB := Lib.hid (HB.out.trans (hb.mono HB.out.size)); clear hb
  have HV2 := Lib.hid (show Sv _ A11 n11 c11 m10 from by rw [HS1.out.eq hs1]; exact hv1); clear hv1 hs1
  go_wp2_with fail
  refine (Chgw.same_r A10 n10 c10 m10 HV1.out.1 (by have := HV1.out.2.2.1; omega) A11 n11 c11 m10 HV2.out.1 _ _ HV1.out.2.2.2 HV2.out.2.2.2).mono ?_
  rw [beq_self_eq_true]
  rintro e w16 ⟨rfl, q, rfl⟩
  have hb := drewN_belowC w15 q
  have HA := Lib.hid (HA.out.all hb)
  have HF := Lib.hid (HF.out.all hb)
  have HX := Lib.hid (HX.out.all hb)
  have HY := Lib.hid (HY.out.all hb)
  have HB := Lib.hid (HB.out.trans (hb.mono HB.out.size)); clear hb
  generalize w15.drewN q = wv at HA HF HX HY HB ⊢
  obtain ⟨cb, hcb⟩ : ∃ r, r = clashC es fs := ⟨_, rfl⟩
  have HCB := Lib.hid hcb; clear hcb
  go_wp2_with fail
  refine (clash_c A4 n c4 es A5 n2 c5 fs _ HX.out HY.out).mono ?_
  rw [← HCB.out]
  rintro e w17 ⟨rfl, hb⟩
  have HA := Lib.hid (HA.out.all hb)
  have HF := Lib.hid (HF.out.all hb)
  have HX := Lib.hid (HX.out.all hb)
  have HY := Lib.hid (HY.out.all hb)
  have HB := Lib.hid (HB.out.trans (hb.mono HB.out.size)); clear hb
  go_wp2_with fail
  refine (clash_r A n c es A2 n2 c2 fs _ HA.out HF.out).mono ?_
  rw [← HCB.out]
  rintro e w18 ⟨rfl, hb⟩
  have HA := Lib.hid (HA.out.all hb)
  have HF := Lib.hid (HF.out.all hb)
  have HX := Lib.hid (HX.out.all hb)
  have HY := Lib.hid (HY.out.all hb)
  have HB := Lib.hid (HB.out.trans (hb.mono HB.out.size)); clear hb
  go_wp2_with fail
  refine (same_o A4 n c4 _ A n c _ _ HX.out HA.out).mono ?_
  rw [sameC_refl]
  rintro e w19 ⟨rfl, hb⟩
  have HA := Lib.hid (HA.out.all hb)
  have HF := Lib.hid (HF.out.all hb)
  have HX := Lib.hid (HX.out.all hb)
  have HY := Lib.hid (HY.out.all hb)
  have HB := Lib.hid (HB.out.trans (hb.mono HB.out.size)); clear hb
  go_wp2_with fail
  refine (same_o A5 n2 c5 _ A2 n2 c2 _ _ HY.out HF.out).mono ?_
  rw [sameC_refl]
  rintro e w20 ⟨rfl, hb⟩
  have HA := Lib.hid (HA.out.all hb)
  have HF := Lib.hid (HF.out.all hb)
  have HX := Lib.hid (HX.out.all hb)
  have HY := Lib.hid (HY.out.all hb)
  have HB := Lib.hid (HB.out.trans (hb.mono HB.out.size)); clear hb
  go_wp2
  go_ret
  exact ⟨rfl, HB.out⟩
end Go.Proofs.Ytgbpfknmdpkacaa.cellsTells

namespace Go.Proofs.Ytgbpfknmdpkacaa
open Go.ChangeShapes Go.WideShapes Go.ChangeAt Go.RowKit

theorem cellsTells_own : ownKnob Try.prog.godebug = none := by kernel_rfl
theorem cellsTells_laid : laidOutB Try.prog = true := by kernel_rfl

set_option maxRecDepth 100000 in
theorem cellsTells_lifted (os : Os) (started : os.Started) (H : Type) (enc : TypeId × Value → H) :
    ReturnsInHanded {} Try.checked os 4 .any (Rows.cellsTellsSpec.pre6 enc Try.prog Try.f4 Rows.cellsTellsRow.domain false) (Rows.cellsTellsSpec.post enc Try.prog Try.f4 false true false false) := by
  refine returnsInHanded_of_change_sized (C := Try.checked) cellsTells_own started (by kernel_rfl) Try.func4
    (ChangeSpec.witness6 (enc := enc) (C := Try.checked) false ⟨#[], #[.slice none 0 0, .slice none 0 0, .int .i64 0], []⟩ 8 (by kernel_rfl) (by kernel_rfl) (by kernel_rfl) (by kernel_rfl)) ?_
  intro W base args ds gs before hval0 hW _ hsz0 _
  have hsz : (DataW.weightsEach Try.prog (Try.f4.params.toList ++ Rows.cellsTellsSpec.plain.varTypes Try.prog) (ds ++ gs)).all (· ≤ reachBytes) = true := hsz0
  have hval : ∀ (j : Nat) t v, Try.f4.params[j]? = some t → args[j]? = some v → Value.okWide Try.prog W .any base t v := hval0
  have hW' := hW
  obtain ⟨p, q, hA0, hV, rfl, hfz, hnd⟩ := hW
  have hA : DataW.TrodAll enc Try.prog W 0 (fun _ => true) true Try.f4.params.toList args.toList ds p := hA0
  rw [Try.params4] at hA hval hsz
  obtain ⟨v0, vs0, d0, ds0, p0, q0, hargs, rfl, rfl, h0, r0⟩ := trodAll_cons hA
  obtain ⟨v1, vs1, d1, ds1, p1, q1, rfl, rfl, rfl, h1, r1⟩ := trodAll_cons r0
  obtain ⟨v2, vs2, d2, ds2, p2, q2, rfl, rfl, rfl, h2, r2⟩ := trodAll_cons r1
  obtain ⟨rfl, rfl, rfl⟩ := trodAll_nil r2
  obtain rfl : args = #[v0, v1, v2] := by cases args; simp_all
  obtain ⟨rfl, rfl⟩ := trodVars_none hV
  clear hA0 hval0
  simp only [List.append_nil] at hW'
  have hk0 := h0
  have hlt0 : ∀ x ∈ p0, x.block < W.heap.size := (fun x hx => by have := hW'.lt x (by simp [hx]); simpa using this)
  obtain ⟨A0, n0, c0, l0, rfl, hn0, hc0, hr0, hd0⟩ := open_cells Try.underlying28 (hval 0 28 v0 rfl rfl) h0 hlt0
  have hb0 := sized_places hsz (j := 0) rfl rfl Try.underlying28 hd0
  rw [show Try.prog.bytesOf 38 = 24 from by kernel_rfl] at hb0
  have hk1 := h1
  have hlt1 : ∀ x ∈ p1, x.block < W.heap.size := (fun x hx => by have := hW'.lt x (by simp [hx]); simpa using this)
  obtain ⟨A1, n1, c1, l1, rfl, hn1, hc1, hr1, hd1⟩ := open_cells Try.underlying28 (hval 1 28 v1 rfl rfl) h1 hlt1
  have hb1 := sized_places hsz (j := 1) rfl rfl Try.underlying28 hd1
  rw [show Try.prog.bytesOf 38 = 24 from by kernel_rfl] at hb1
  obtain ⟨a2, rfl, rfl, rfl, w2⟩ := open_int Try.underlying3 (hval 2 3 v2 rfl rfl) h2
  refine (cellsTells.walk W A0 n0 c0 l0 ⟨hn0, hc0, by omega, hr0⟩ A1 n1 c1 l1 ⟨hn1, hc1, by omega, hr1⟩ a2 w2).mono fun e W' ⟨he, hb⟩ => ?_
  subst he
  exact ⟨_, rfl, _, _, _, [], _, [], hW', trodAll_cons_mk (shut_bool Try.underlying4 _) trodAll_mk0, (trodAll_cons_mk (Below.trod cellsTells_laid (by kernel_rfl) (of_decide_eq_true (by kernel_rfl)) hk0 hb hlt0) (trodAll_cons_mk (Below.trod cellsTells_laid (by kernel_rfl) (of_decide_eq_true (by kernel_rfl)) hk1 hb hlt1) (trodAll_cons_mk (shut_int Try.underlying3 w2) trodAll_mk0))), rfl, hb.frame _, fun h => by cases h⟩

theorem cellsTells_proved : Rows.CellsTellsSaid :=
  OpenClaim.holds_of_wide 4 Try.f4 rfl rfl rfl rfl rfl rfl rfl ⟨rfl, rfl, rfl, rfl, rfl⟩ rfl rfl rfl rfl rfl (by kernel_rfl) Try.func4 (by kernel_rfl)
    (of_decide_eq_true (by kernel_rfl)) (by unfold Func.isWrapper; first | (rw [if_pos (by decide +kernel)]; kernel_rfl) | (rw [if_neg (by decide +kernel)]; exact ⟨rfl, rfl⟩))
    (fun os started H enc _ => cellsTells_lifted os started H enc)
#print axioms cellsTells_proved
end Go.Proofs.Ytgbpfknmdpkacaa
