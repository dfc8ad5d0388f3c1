/- CellsTurns: Cells that do not clash may be merged in any order, any cells in any grouping; nothing that was written is lost, and with its news an old list is what both make. Conditions: none. -/
import Derived.Test.YtgbpfknmdpkacaaRows
import Derived.Test.YtgbpfknmdpkacaaG17
import Derived.Test.YtgbpfknmdpkacaaG20
import Derived.Test.YtgbpfknmdpkacaaG22
import Derived.WalkKit
import Derived.ProofKit
import Derived.OpenShut
import Derived.Laws.Cover2
import Derived.SizedLaws
import Derived.JoinedCond
import Derived.Carry
set_option linter.unusedSimpArgs false
set_option linter.unusedVariables false
namespace Go.Proofs.Ytgbpfknmdpkacaa.cellsTurns
set_option maxRecDepth 20000
open Go.RowKit
open Chg Vw Cl Clw
open Chgw (hat hbe ret_bool vw Vi Vx)
open Rg (bal)

theorem has_merge_r {a b : List C} (ha : isCl a = true) (hb : isCl b = true) {x : C} (hx : x ∈ b) : hasC (mergeC a b) x.1 = true := by
  have h := fnd_merge ha hb x.1
  rw [fnd_mem b (-1) hb x hx] at h
  cases hf : fnd a x.1 with
  | none => rw [hf] at h; exact hasC_some h
  | some y => rw [hf] at h; exact hasC_some h
set_option maxRecDepth 100000 in
set_option maxHeartbeats 2000000 in
theorem walk (w : World) (A : Option Addr) (n c : Nat) (es : List C) (ha : Sc w A n c es) (A2 : Option Addr) (n2 c2 : Nat) (fs : List C) (hb : Sc w A2 n2 c2 fs) (A3 : Option Addr) (n3 c3 : Nat) (gs : List C) (hc : Sc w A3 n3 c3 gs) :
    Calls Try.prog 5 #[.slice A n c, .slice A2 n2 c2, .slice A3 n3 c3] w fun e w' => e = .returned (.bool true) ∧ Below w.heap.size w w' := by
  have HA := Lib.hid ha; have HF := Lib.hid hb; have HC := Lib.hid hc
  clear ha hb hc
  have HB := Lib.hid (Below.refl w.heap.size w)
  go_enter Try.func5, Try.ntmps5
  go_wp2_with fail
  refine (cells_alive_c _).mono ?_
  rintro e w1 ⟨rfl, hb⟩
  have HA := Lib.hid (HA.out.all hb)
  have HF := Lib.hid (HF.out.all hb)
  have HC := Lib.hid (HC.out.all hb)
  have HB := Lib.hid (HB.out.trans (hb.mono HB.out.size)); clear hb
  go_wp2_with fail
  refine (check_c A n c es _ HA.out).mono ?_
  rintro e w2 ⟨rfl, hb⟩
  have HA := Lib.hid (HA.out.all hb)
  have HF := Lib.hid (HF.out.all hb)
  have HC := Lib.hid (HC.out.all hb)
  have HB := Lib.hid (HB.out.trans (hb.mono HB.out.size)); clear hb
  cases hbk : isCl es with
  | false =>
    rw [chkM_no hbk]
    clear hbk
    go_wp2
    go_ret
    exact ⟨rfl, HB.out⟩
  | true =>
  rw [chkM_yes hbk]
  have B1 := Lib.hid hbk; clear hbk
  go_wp2_with fail
  refine (check_c A2 n2 c2 fs _ HF.out).mono ?_
  rintro e w3 ⟨rfl, hb⟩
  have HA := Lib.hid (HA.out.all hb)
  have HF := Lib.hid (HF.out.all hb)
  have HC := Lib.hid (HC.out.all hb)
  have HB := Lib.hid (HB.out.trans (hb.mono HB.out.size)); clear hb
  cases hbk : isCl fs with
  | false =>
    rw [chkM_no hbk]
    clear hbk
    go_wp2
    go_ret
    exact ⟨rfl, HB.out⟩
  | true =>
  rw [chkM_yes hbk]
  have B2 := Lib.hid hbk; clear hbk
  go_wp2_with fail
  refine (check_c A3 n3 c3 gs _ HC.out).mono ?_
  rintro e w4 ⟨rfl, hb⟩
  have HA := Lib.hid (HA.out.all hb)
  have HF := Lib.hid (HF.out.all hb)
  have HC := Lib.hid (HC.out.all hb)
  have HB := Lib.hid (HB.out.trans (hb.mono HB.out.size)); clear hb
  cases hbk : isCl gs with
  | false =>
    rw [chkM_no hbk]
    clear hbk
    go_wp2
    go_ret
    exact ⟨rfl, HB.out⟩
  | true =>
  rw [chkM_yes hbk]
  have B3 := Lib.hid hbk; clear hbk
  have B4 := Lib.hid (merge_cl B1.out B2.out)
  have B5 := Lib.hid (merge_cl B2.out B3.out)
  go_wp2_with fail
  refine (merge_c A n c es A2 n2 c2 fs _ HA.out HF.out).mono ?_
  rintro e w5 ⟨A4, n4, c4, rfl, hs, hb⟩
  have HA := Lib.hid (HA.out.all hb)
  have HF := Lib.hid (HF.out.all hb)
  have HC := Lib.hid (HC.out.all hb)
  have HM := Lib.hid hs
  clear hs
  have HB := Lib.hid (HB.out.trans (hb.mono HB.out.size)); clear hb
  go_wp2_with fail
  refine (check_c A4 n4 c4 _ _ HM.out).mono ?_
  rw [chkM_yes B4.out]
  rintro e w6 ⟨rfl, hb⟩
  have HA := Lib.hid (HA.out.all hb)
  have HF := Lib.hid (HF.out.all hb)
  have HC := Lib.hid (HC.out.all hb)
  have HM := Lib.hid (HM.out.all hb)
  have HB := Lib.hid (HB.out.trans (hb.mono HB.out.size)); clear hb
  go_wp2_with fail
  refine (merge_c A4 n4 c4 _ A3 n3 c3 gs _ HM.out HC.out).mono ?_
  rintro e w7 ⟨A5, n5, c5, rfl, hs, hb⟩
  have HA := Lib.hid (HA.out.all hb)
  have HF := Lib.hid (HF.out.all hb)
  have HC := Lib.hid (HC.out.all hb)
  have HM := Lib.hid (HM.out.all hb)
  have H5 := Lib.hid hs
  clear hs
  have HB := Lib.hid (HB.out.trans (hb.mono HB.out.size)); clear hb
  go_wp2_with fail
  refine (merge_c A2 n2 c2 fs A3 n3 c3 gs _ HF.out HC.out).mono ?_
  rintro e w8 ⟨A6, n6, c6, rfl, hs, hb⟩
  have HA := Lib.hid (HA.out.all hb)
  have HF := Lib.hid (HF.out.all hb)
  have HC := Lib.hid (HC.out.all hb)
  have HM := Lib.hid (HM.out.all hb)
  have H5 := Lib.hid (H5.out.all hb)
  have H6 := Lib.hid hs
  clear hs
  have HB := Lib.hid (HB.out.trans (hb.mono HB.out.size)); clear hb
  go_wp2_with fail
  refine (merge_c A n c es A6 n6 c6 _ _ HA.out H6.out).mono ?_
  rw [← merge_assocC B1.out B2.out B3.out]
  rintro e w9 ⟨A7, n7, c7, rfl, hs, hb⟩
  have HA := Lib.hid (HA.out.all hb)
  have HF := Lib.hid (HF.out.all hb)
  have HC := Lib.hid (HC.out.all hb)
  have HM := Lib.hid (HM.out.all hb)
  have H5 := Lib.hid (H5.out.all hb)
  have H7 := Lib.hid hs
  clear hs
  have HB := Lib.hid (HB.out.trans (hb.mono HB.out.size)); clear hb
  go_wp2_with fail
  refine (same_o A5 n5 c5 _ A7 n7 c7 _ _ H5.out H7.out).mono ?_
  rw [sameC_refl]
  rintro e w10 ⟨rfl, hb⟩
  have HA := Lib.hid (HA.out.all hb)
  have HF := Lib.hid (HF.out.all hb)
  have HC := Lib.hid (HC.out.all hb)
  have HM := Lib.hid (HM.out.all hb)
  have HB := Lib.hid (HB.out.trans (hb.mono HB.out.size)); clear hb
  go_wp2_with fail
  refine (news_c A n c es A2 n2 c2 fs _ HA.out HF.out B2.out).mono ?_
  rintro e w11 ⟨A8, n8, c8, rfl, hs, hb⟩
  have HA := Lib.hid (HA.out.all hb)
  have HF := Lib.hid (HF.out.all hb)
  have HC := Lib.hid (HC.out.all hb)
  have HM := Lib.hid (HM.out.all hb)
  have H8 := Lib.hid hs
  clear hs
  have HB := Lib.hid (HB.out.trans (hb.mono HB.out.size)); clear hb
  go_wp2_with fail
  refine (merge_c A n c es A8 n8 c8 _ _ HA.out H8.out).mono ?_
  rw [merge_newsC B1.out B2.out]
  rintro e w12 ⟨A9, n9, c9, rfl, hs, hb⟩
  have HA := Lib.hid (HA.out.all hb)
  have HF := Lib.hid (HF.out.all hb)
  have HC := Lib.hid (HC.out.all hb)
  have HM := Lib.hid (HM.out.all hb)
  have H9 := Lib.hid hs
  clear hs
  have HB := Lib.hid (HB.out.trans (hb.mono HB.out.size)); clear hb
  go_wp2_with fail
  refine (same_o A9 n9 c9 _ A4 n4 c4 _ _ H9.out HM.out).mono ?_
  rw [sameC_refl]
  rintro e w13 ⟨rfl, hb⟩
  have HA := Lib.hid (HA.out.all hb)
  have HF := Lib.hid (HF.out.all hb)
  have HC := Lib.hid (HC.out.all hb)
  have HM := Lib.hid (HM.out.all hb)
  have HB := Lib.hid (HB.out.trans (hb.mono HB.out.size)); clear hb
  go_wp2_with fail
  refine (clash_c A4 n4 c4 _ A n c es _ HM.out HA.out).mono ?_
  rw [clash_merge_l B1.out B2.out]
  rintro e w14 ⟨rfl, hb⟩
  have HA := Lib.hid (HA.out.all hb)
  have HF := Lib.hid (HF.out.all hb)
  have HC := Lib.hid (HC.out.all hb)
  have HM := Lib.hid (HM.out.all hb)
  have HB := Lib.hid (HB.out.trans (hb.mono HB.out.size)); clear hb
  have HN := Lib.hid HF.out.1; have HRF := Lib.hid HF.out.2.2.2; have HFZ := Lib.hid HF.out
  have hn6 : n2 ≤ 6 := by rw [HN.out]; exact cl_len B2.out
  generalize hw0 : w14 = w0 at HA HF HM HB HRF HFZ ⊢
  go_wp2
  go_loopw [62] (fun i wr => ∃ k : Nat, i = .int .i64 k ∧ k ≤ n2 ∧ Below w0.heap.size w0 wr) (fun i _ => n2 - (intOf i).toNat)
  case atStart => exact ⟨0, rfl, by omega, Below.refl _ _⟩
  case round =>
    obtain ⟨k, rfl, hk, hb⟩ := hrel
    have HL := Lib.hid hb; clear hb
    by_cases h : k < n2
    · obtain ⟨b, o, rfl, hbB, hcell⟩ := HRF.out (by rw [← HN.out]; omega)
      have hkl : k < fs.length := by rw [← HN.out]; exact h
      have hz : fs[k]? = some fs[k] := List.getElem?_eq_getElem hkl
      have hc0 := (tri_at (hcell k fs[k] hz)).below HL.out hbB
      have HHM := Lib.hid (has_merge_r B1.out B2.out (List.getElem_mem hkl))
      generalize fs[k] = x at hc0 HHM
      obtain ⟨xk, xa, xd⟩ := x
      obtain ⟨x0, x1, x2⟩ := hc0
      rw [show KC.k = 3 from rfl] at x0 x1 x2
      clear hz hcell hkl
      have HMM := Lib.hid (HM.out.all (bal HL.out (Nat.le_refl _) (.cells #[.int .i64 xk, .int .i64 xa, .int .i64 xd] 38)))
      have HLL := Lib.hid (bal HL.out (Nat.le_refl _) (.cells #[.int .i64 xk, .int .i64 xa, .int .i64 xd] 38))
      have HHM : Hid (hasC (mergeC es fs) xk = true) := HHM
      go_wp2_with fail
      refine (of_c A4 n4 c4 _ xk _ HMM.out).mono ?_
      rw [HHM.out]
      generalize (getC (mergeC es fs) xk).2.1 = ya
      generalize (getC (mergeC es fs) xk).2.2 = yd
      rintro e w2 ⟨rfl, hb2⟩
      have HLL := Lib.hid (HLL.out.trans (hb2.mono HLL.out.size)); clear hb2 x0 x1 x2
      unfold vw
      go_wp2
      exact ⟨⟨k + 1, by go_num, by omega, bal HLL.out (Nat.le_refl _) _⟩, by simp [intOf]; omega⟩
    · obtain rfl : k = n2 := by omega
      have HA := Lib.hid (HA.out.all HL.out)
      have HF := Lib.hid (HFZ.out.all HL.out)
      have HM := Lib.hid (HM.out.all HL.out)
      have HB := Lib.hid (HB.out.trans (HL.out.mono HB.out.size))
      clear HL HN HRF HFZ
      go_wp2_with fail
      refine (clash_c A n c es A2 k c2 fs _ HA.out HF.out).mono ?_
      rintro e w41 ⟨rfl, hb⟩
      have HA := Lib.hid (HA.out.all hb)
      have HF := Lib.hid (HF.out.all hb)
      have HM := Lib.hid (HM.out.all hb)
      have HB := Lib.hid (HB.out.trans (hb.mono HB.out.size)); clear hb
      cases hcl : clashC es fs with
      | true =>
        clear hcl
        go_wp2
        go_ret
        exact ⟨rfl, HB.out⟩
      | false =>
      have HCL := Lib.hid hcl; clear hcl
      go_wp2_with fail
      refine (merge_c A2 k c2 fs A n c es _ HF.out HA.out).mono ?_
      rw [← merge_turn B1.out B2.out HCL.out]
      rintro e w42 ⟨A9, n9, c9, rfl, hs, hb⟩
      have HA := Lib.hid (HA.out.all hb)
      have HF := Lib.hid (HF.out.all hb)
      have HM := Lib.hid (HM.out.all hb)
      have H9 := Lib.hid hs
      clear hs
      have HB := Lib.hid (HB.out.trans (hb.mono HB.out.size)); clear hb
      go_wp2_with fail
      refine (same_o A4 n4 c4 _ A9 n9 c9 _ _ HM.out H9.out).mono ?_
      rw [sameC_refl]
      rintro e w43 ⟨rfl, hb⟩
      have HA := Lib.hid (HA.out.all hb)
      have HF := Lib.hid (HF.out.all hb)
      have HM := Lib.hid (HM.out.all hb)
      have HB := Lib.hid (HB.out.trans (hb.mono HB.out.size)); clear hb
      go_wp2_with fail
      refine (clash_c A4 n4 c4 _ A2 k c2 fs _ HM.out HF.out).mono ?_
      rw [clash_merge_r B1.out B2.out HCL.out]
      rintro e w44 ⟨rfl, hb⟩
      have HA := Lib.hid (HA.out.all hb)
      have HF := Lib.hid (HF.out.all hb)
      have HM := Lib.hid (HM.out.all hb)
      have HB := Lib.hid (HB.out.trans (hb.mono HB.out.size)); clear hb
      go_wp2
      go_ret
      exact ⟨rfl, HB.out⟩
end Go.Proofs.Ytgbpfknmdpkacaa.cellsTurns

namespace Go.Proofs.Ytgbpfknmdpkacaa
open Go.ChangeShapes Go.WideShapes Go.ChangeAt Go.RowKit

theorem cellsTurns_own : ownKnob Try.prog.godebug = none := by kernel_rfl
theorem cellsTurns_laid : laidOutB Try.prog = true := by kernel_rfl

set_option maxRecDepth 100000 in
theorem cellsTurns_lifted (os : Os) (started : os.Started) (H : Type) (enc : TypeId × Value → H) :
    ReturnsInHanded {} Try.checked os 5 .any (Rows.cellsTurnsSpec.pre6 enc Try.prog Try.f5 Rows.cellsTurnsRow.domain false) (Rows.cellsTurnsSpec.post enc Try.prog Try.f5 false true false false) := by
  refine returnsInHanded_of_change_sized (C := Try.checked) cellsTurns_own started (by kernel_rfl) Try.func5
    (ChangeSpec.witness6 (enc := enc) (C := Try.checked) false ⟨#[], #[.slice none 0 0, .slice none 0 0, .slice none 0 0], []⟩ 8 (by kernel_rfl) (by kernel_rfl) (by kernel_rfl) (by kernel_rfl)) ?_
  intro W base args ds gs before hval0 hW _ hsz0 _
  have hsz : (DataW.weightsEach Try.prog (Try.f5.params.toList ++ Rows.cellsTurnsSpec.plain.varTypes Try.prog) (ds ++ gs)).all (· ≤ reachBytes) = true := hsz0
  have hval : ∀ (j : Nat) t v, Try.f5.params[j]? = some t → args[j]? = some v → Value.okWide Try.prog W .any base t v := hval0
  have hW' := hW
  obtain ⟨p, q, hA0, hV, rfl, hfz, hnd⟩ := hW
  have hA : DataW.TrodAll enc Try.prog W 0 (fun _ => true) true Try.f5.params.toList args.toList ds p := hA0
  rw [Try.params5] at hA hval hsz
  obtain ⟨v0, vs0, d0, ds0, p0, q0, hargs, rfl, rfl, h0, r0⟩ := trodAll_cons hA
  obtain ⟨v1, vs1, d1, ds1, p1, q1, rfl, rfl, rfl, h1, r1⟩ := trodAll_cons r0
  obtain ⟨v2, vs2, d2, ds2, p2, q2, rfl, rfl, rfl, h2, r2⟩ := trodAll_cons r1
  obtain ⟨rfl, rfl, rfl⟩ := trodAll_nil r2
  obtain rfl : args = #[v0, v1, v2] := by cases args; simp_all
  obtain ⟨rfl, rfl⟩ := trodVars_none hV
  clear hA0 hval0
  simp only [List.append_nil] at hW'
  have hk0 := h0
  have hlt0 : ∀ x ∈ p0, x.block < W.heap.size := (fun x hx => by have := hW'.lt x (by simp [hx]); simpa using this)
  obtain ⟨A0, n0, c0, l0, rfl, hn0, hc0, hr0, hd0⟩ := open_cells Try.underlying28 (hval 0 28 v0 rfl rfl) h0 hlt0
  have hb0 := sized_places hsz (j := 0) rfl rfl Try.underlying28 hd0
  rw [show Try.prog.bytesOf 38 = 24 from by kernel_rfl] at hb0
  have hk1 := h1
  have hlt1 : ∀ x ∈ p1, x.block < W.heap.size := (fun x hx => by have := hW'.lt x (by simp [hx]); simpa using this)
  obtain ⟨A1, n1, c1, l1, rfl, hn1, hc1, hr1, hd1⟩ := open_cells Try.underlying28 (hval 1 28 v1 rfl rfl) h1 hlt1
  have hb1 := sized_places hsz (j := 1) rfl rfl Try.underlying28 hd1
  rw [show Try.prog.bytesOf 38 = 24 from by kernel_rfl] at hb1
  have hk2 := h2
  have hlt2 : ∀ x ∈ p2, x.block < W.heap.size := (fun x hx => by have := hW'.lt x (by simp [hx]); simpa using this)
  obtain ⟨A2, n2, c2, l2, rfl, hn2, hc2, hr2, hd2⟩ := open_cells Try.underlying28 (hval 2 28 v2 rfl rfl) h2 hlt2
  have hb2 := sized_places hsz (j := 2) rfl rfl Try.underlying28 hd2
  rw [show Try.prog.bytesOf 38 = 24 from by kernel_rfl] at hb2
  refine (cellsTurns.walk W A0 n0 c0 l0 ⟨hn0, hc0, by omega, hr0⟩ A1 n1 c1 l1 ⟨hn1, hc1, by omega, hr1⟩ A2 n2 c2 l2 ⟨hn2, hc2, by omega, hr2⟩).mono fun e W' ⟨he, hb⟩ => ?_
  subst he
  exact ⟨_, rfl, _, _, _, [], _, [], hW', trodAll_cons_mk (shut_bool Try.underlying4 _) trodAll_mk0, (trodAll_cons_mk (Below.trod cellsTurns_laid (by kernel_rfl) (of_decide_eq_true (by kernel_rfl)) hk0 hb hlt0) (trodAll_cons_mk (Below.trod cellsTurns_laid (by kernel_rfl) (of_decide_eq_true (by kernel_rfl)) hk1 hb hlt1) (trodAll_cons_mk (Below.trod cellsTurns_laid (by kernel_rfl) (of_decide_eq_true (by kernel_rfl)) hk2 hb hlt2) trodAll_mk0))), rfl, hb.frame _, fun h => by cases h⟩

theorem cellsTurns_proved : Rows.CellsTurnsSaid :=
  OpenClaim.holds_of_wide 5 Try.f5 rfl rfl rfl rfl rfl rfl rfl ⟨rfl, rfl, rfl, rfl, rfl⟩ rfl rfl rfl rfl rfl (by kernel_rfl) Try.func5 (by kernel_rfl)
    (of_decide_eq_true (by kernel_rfl)) (by unfold Func.isWrapper; first | (rw [if_pos (by decide +kernel)]; kernel_rfl) | (rw [if_neg (by decide +kernel)]; exact ⟨rfl, rfl⟩))
    (fun os started H enc _ => cellsTurns_lifted os started H enc)
#print axioms cellsTurns_proved
end Go.Proofs.Ytgbpfknmdpkacaa
