/- CellsFirst: What was there first stays when cells are merged; the news have no node that was there; with nothing nothing changes. Conditions: none. -/
import Derived.Test.YtgbpfknmdpkacaaRows
import Derived.Test.YtgbpfknmdpkacaaG17
import Derived.Test.YtgbpfknmdpkacaaG20
import Derived.Test.YtgbpfknmdpkacaaG22
import Derived.WalkKit
import Derived.ProofKit
import Derived.OpenShut
import Derived.Laws.Cover2
import Derived.SizedLaws
import Derived.JoinedCond
import Derived.Carry
set_option linter.unusedSimpArgs false
set_option linter.unusedVariables false
namespace Go.Proofs.Ytgbpfknmdpkacaa.cellsFirst
set_option maxRecDepth 20000
open Go.RowKit
open Chg Vw Cl Clw
open Chgw (hat hbe ret_bool vw Vi Vx)
open Rg (bal)

theorem get_merge_l {a b : List C} (ha : isCl a = true) (hb : isCl b = true) {x : C} (hx : x ∈ a) : (getC (mergeC a b) x.1).2.1 = x.2.1 ∧ (getC (mergeC a b) x.1).2.2 = x.2.2 ∧ hasC (mergeC a b) x.1 = true := by
  have h := fnd_merge ha hb x.1
  rw [fnd_mem a (-1) ha x hx] at h
  exact Clw.get_at h
theorem get_merge_n {a b : List C} (ha : isCl a = true) (hb : isCl b = true) {x : C} (hx : x ∈ newsC a b) : hasC a x.1 = false ∧ (getC (mergeC a b) x.1).2.1 = x.2.1 ∧ (getC (mergeC a b) x.1).2.2 = x.2.2 ∧ hasC (mergeC a b) x.1 = true := by
  have hm := List.mem_filter.1 hx
  have h1 : hasC a x.1 = false := by simpa using hm.2
  have h := fnd_merge ha hb x.1
  rw [fnd_mem b (-1) hb x hm.1] at h
  cases hf : fnd a x.1 with
  | none => rw [hf] at h; exact ⟨h1, Clw.get_at h⟩
  | some y => rw [hasC_some hf] at h1; cases h1
set_option maxRecDepth 100000 in
set_option maxHeartbeats 2000000 in
theorem walk (w : World) (A : Option Addr) (n c : Nat) (es : List C) (ha : Sc w A n c es) (A2 : Option Addr) (n2 c2 : Nat) (fs : List C) (hb : Sc w A2 n2 c2 fs) :
    Calls Try.prog 7 #[.slice A n c, .slice A2 n2 c2] w fun e w' => e = .returned (.bool true) ∧ Below w.heap.size w w' := by
  have heq := Chgw.eq_view
  have HA := Lib.hid ha; have HF := Lib.hid hb
  clear ha hb
  have HB := Lib.hid (Below.refl w.heap.size w)
  go_enter Try.func7, Try.ntmps7
  go_wp2_with fail
  refine (cells_alive_c _).mono ?_
  rintro e w1 ⟨rfl, hb⟩
  have HA := Lib.hid (HA.out.all hb)
  have HF := Lib.hid (HF.out.all hb)
  have HB := Lib.hid (HB.out.trans (hb.mono HB.out.size)); clear hb
  go_wp2_with fail
  refine (check_c A n c es _ HA.out).mono ?_
  rintro e w2 ⟨rfl, hb⟩
  have HA := Lib.hid (HA.out.all hb)
  have HF := Lib.hid (HF.out.all hb)
  have HB := Lib.hid (HB.out.trans (hb.mono HB.out.size)); clear hb
  cases hbk : isCl es with
  | false =>
    rw [chkM_no hbk]
    clear hbk
    go_wp2
    go_ret
    exact ⟨rfl, HB.out⟩
  | true =>
  rw [chkM_yes hbk]
  have B1 := Lib.hid hbk; clear hbk
  go_wp2_with fail
  refine (check_c A2 n2 c2 fs _ HF.out).mono ?_
  rintro e w3 ⟨rfl, hb⟩
  have HA := Lib.hid (HA.out.all hb)
  have HF := Lib.hid (HF.out.all hb)
  have HB := Lib.hid (HB.out.trans (hb.mono HB.out.size)); clear hb
  cases hbk : isCl fs with
  | false =>
    rw [chkM_no hbk]
    clear hbk
    go_wp2
    go_ret
    exact ⟨rfl, HB.out⟩
  | true =>
  rw [chkM_yes hbk]
  have B2 := Lib.hid hbk; clear hbk
  go_wp2_with fail
  refine (merge_c A n c es A2 n2 c2 fs _ HA.out HF.out).mono ?_
  rintro e w4 ⟨A4, n4, c4, rfl, hs, hb⟩
  have HA := Lib.hid (HA.out.all hb)
  have HF := Lib.hid (HF.out.all hb)
  have HM := Lib.hid hs
  clear hs
  have HB := Lib.hid (HB.out.trans (hb.mono HB.out.size)); clear hb
  have HN := Lib.hid HA.out.1; have HRA := Lib.hid HA.out.2.2.2
  have hn6 : n ≤ 6 := by rw [HN.out]; exact cl_len B1.out
  generalize w4 = w0 at HA HF HM HB HRA ⊢
  go_wp2
  go_loopw [31] (fun i wr => ∃ k : Nat, i = .int .i64 k ∧ k ≤ n ∧ Below w0.heap.size w0 wr) (fun i _ => n - (intOf i).toNat)
  case atStart => exact ⟨0, rfl, by omega, Below.refl _ _⟩
  case round =>
    rename World => wp
    obtain ⟨k, rfl, hk, hb⟩ := hrel
    have HL := Lib.hid hb; clear hb
    by_cases h : k < n
    · obtain ⟨b, o, rfl, hbB, hcell⟩ := HRA.out (by rw [← HN.out]; omega)
      have hkl : k < es.length := by rw [← HN.out]; exact h
      have hz : es[k]? = some es[k] := List.getElem?_eq_getElem hkl
      have hc0 := (tri_at (hcell k es[k] hz)).below HL.out hbB
      have HHM := Lib.hid (get_merge_l B1.out B2.out (List.getElem_mem hkl))
      generalize es[k] = x at hc0 HHM
      obtain ⟨xk, xa, xd⟩ := x
      obtain ⟨x0, x1, x2⟩ := hc0
      rw [show KC.k = 3 from rfl] at x0 x1 x2
      clear hz hcell hkl
      have HMM := Lib.hid (HM.out.all (bal HL.out (Nat.le_refl _) (.cells #[.int .i64 xk, .int .i64 xa, .int .i64 xd] 38)))
      have HLL := Lib.hid (bal HL.out (Nat.le_refl _) (.cells #[.int .i64 xk, .int .i64 xa, .int .i64 xd] 38))
      have HHM : Hid ((getC (mergeC es fs) xk).2.1 = xa ∧ (getC (mergeC es fs) xk).2.2 = xd ∧ hasC (mergeC es fs) xk = true) := HHM
      go_wp2_with fail
      have VX := Lib.hid (show Cx (wp.alloc (.cells #[.int .i64 xk, .int .i64 xa, .int .i64 xd] 38)) wp.heap.size (xk, xa, xd) from hat _ _ _ rfl)
      clear x0 x1 x2
      generalize wp.alloc (.cells #[.int .i64 xk, .int .i64 xa, .int .i64 xd] 38) = wq at HMM HLL VX ⊢
      generalize wp.heap.size = gx at VX ⊢
      refine (of_c A4 n4 c4 _ xk _ HMM.out).mono ?_
      rw [HHM.out.1, HHM.out.2.1, HHM.out.2.2]
      rintro e w2 ⟨rfl, hb2⟩
      have VX := Lib.hid (VX.out.all hb2)
      have HLL := Lib.hid (HLL.out.trans (hb2.mono HLL.out.size)); clear hb2
      unfold vw
      have x0 : (w2.alloc (.cells #[.int .i64 xa, .int .i64 xd] 31)).cell? ⟨gx, 0, none⟩ = some (.int .i64 xk) := Cx.c0 (x := (xk, xa, xd)) (hbe VX.out)
      have x1 : (w2.alloc (.cells #[.int .i64 xa, .int .i64 xd] 31)).cell? ⟨gx, 1, none⟩ = some (.int .i64 xa) := Cx.c1 (x := (xk, xa, xd)) (hbe VX.out)
      have x2 : (w2.alloc (.cells #[.int .i64 xa, .int .i64 xd] 31)).cell? ⟨gx, 2, none⟩ = some (.int .i64 xd) := Cx.c2 (x := (xk, xa, xd)) (hbe VX.out)
      go_wp2
      exact ⟨⟨k + 1, by go_num, by omega, bal HLL.out (Nat.le_refl _) _⟩, by simp [intOf]; omega⟩
    · obtain rfl : k = n := by omega
      have HA := Lib.hid (HA.out.all HL.out)
      have HF := Lib.hid (HF.out.all HL.out)
      have HM := Lib.hid (HM.out.all HL.out)
      have HB := Lib.hid (HB.out.trans (HL.out.mono HB.out.size))
      clear HL HN HRA
      go_wp2_with fail
      refine (news_c A k c es A2 n2 c2 fs _ HA.out HF.out B2.out).mono ?_
      rintro e w41 ⟨A5, n5, c5, rfl, hs, hb⟩
      have HA := Lib.hid (HA.out.all hb)
      have HF := Lib.hid (HF.out.all hb)
      have HM := Lib.hid (HM.out.all hb)
      have HW := Lib.hid hs
      clear hs
      have HB := Lib.hid (HB.out.trans (hb.mono HB.out.size)); clear hb
      have HN := Lib.hid HW.out.1; have HRW := Lib.hid HW.out.2.2.2
      have hn5 : n5 ≤ 6 := by rw [HN.out]; exact cl_len (news_cl B2.out)
      generalize w41 = w0 at HA HF HM HW HB HRW ⊢
      go_wp2
      go_loopw [55] (fun i wr => ∃ j : Nat, i = .int .i64 j ∧ j ≤ n5 ∧ Below w0.heap.size w0 wr) (fun i _ => n5 - (intOf i).toNat)
      case atStart => exact ⟨0, rfl, by omega, Below.refl _ _⟩
      case round =>
        rename World => ws
        obtain ⟨j, rfl, hj, hb⟩ := hrel
        have HL := Lib.hid hb; clear hb
        by_cases h : j < n5
        · obtain ⟨b, o, rfl, hbB, hcell⟩ := HRW.out (by rw [← HN.out]; omega)
          have hkl : j < (newsC es fs).length := by rw [← HN.out]; exact h
          have hz : (newsC es fs)[j]? = some (newsC es fs)[j] := List.getElem?_eq_getElem hkl
          have hc0 := (tri_at (hcell j (newsC es fs)[j] hz)).below HL.out hbB
          have HHM := Lib.hid (get_merge_n B1.out B2.out (List.getElem_mem hkl))
          generalize (newsC es fs)[j] = x at hc0 HHM
          obtain ⟨xk, xa, xd⟩ := x
          obtain ⟨x0, x1, x2⟩ := hc0
          rw [show KC.k = 3 from rfl] at x0 x1 x2
          clear hz hcell hkl
          have HAA := Lib.hid (HA.out.all (bal HL.out (Nat.le_refl _) (.cells #[.int .i64 xk, .int .i64 xa, .int .i64 xd] 38)))
          have HMM := Lib.hid (HM.out.all (bal HL.out (Nat.le_refl _) (.cells #[.int .i64 xk, .int .i64 xa, .int .i64 xd] 38)))
          have HLL := Lib.hid (bal HL.out (Nat.le_refl _) (.cells #[.int .i64 xk, .int .i64 xa, .int .i64 xd] 38))
          have HHM : Hid (hasC es xk = false ∧ (getC (mergeC es fs) xk).2.1 = xa ∧ (getC (mergeC es fs) xk).2.2 = xd ∧ hasC (mergeC es fs) xk = true) := HHM
          go_wp2_with fail
          have VX := Lib.hid (show Cx (ws.alloc (.cells #[.int .i64 xk, .int .i64 xa, .int .i64 xd] 38)) ws.heap.size (xk, xa, xd) from hat _ _ _ rfl)
          clear x0 x1 x2
          generalize ws.alloc (.cells #[.int .i64 xk, .int .i64 xa, .int .i64 xd] 38) = wq at HAA HMM HLL VX ⊢
          generalize ws.heap.size = gx at VX ⊢
          refine (of_c A k c _ xk _ HAA.out).mono ?_
          rw [HHM.out.1]
          generalize (getC es xk).2.1 = ya
          generalize (getC es xk).2.2 = yd
          rintro e w2 ⟨rfl, hb2⟩
          have VX := Lib.hid (VX.out.all hb2)
          have HMM := Lib.hid (HMM.out.all hb2)
          have HLL := Lib.hid (HLL.out.trans (hb2.mono HLL.out.size)); clear hb2
          unfold vw
          have x0 : (w2.alloc (.cells #[.int .i64 ya, .int .i64 yd] 31)).cell? ⟨gx, 0, none⟩ = some (.int .i64 xk) := Cx.c0 (x := (xk, xa, xd)) (hbe VX.out)
          go_wp2_with fail
          clear x0
          have VX := Lib.hid (show Cx (w2.alloc (.cells #[.int .i64 ya, .int .i64 yd] 31)) gx (xk, xa, xd) from hbe VX.out)
          have HMM := Lib.hid (HMM.out.all (bal (Below.refl _ _) (Nat.le_refl _) (.cells #[.int .i64 ya, .int .i64 yd] 31)))
          have HLL := Lib.hid (bal HLL.out (Nat.le_refl _) (.cells #[.int .i64 ya, .int .i64 yd] 31))
          generalize w2.alloc (.cells #[.int .i64 ya, .int .i64 yd] 31) = wt at HMM HLL VX ⊢
          refine (of_c A4 n4 c4 _ xk _ HMM.out).mono ?_
          rw [HHM.out.2.1, HHM.out.2.2.1, HHM.out.2.2.2]
          rintro e w3 ⟨rfl, hb2⟩
          have VX := Lib.hid (VX.out.all hb2)
          have HLL := Lib.hid (HLL.out.trans (hb2.mono HLL.out.size)); clear hb2
          unfold vw
          have x0 : (w3.alloc (.cells #[.int .i64 xa, .int .i64 xd] 31)).cell? ⟨gx, 0, none⟩ = some (.int .i64 xk) := Cx.c0 (x := (xk, xa, xd)) (hbe VX.out)
          have x1 : (w3.alloc (.cells #[.int .i64 xa, .int .i64 xd] 31)).cell? ⟨gx, 1, none⟩ = some (.int .i64 xa) := Cx.c1 (x := (xk, xa, xd)) (hbe VX.out)
          have x2 : (w3.alloc (.cells #[.int .i64 xa, .int .i64 xd] 31)).cell? ⟨gx, 2, none⟩ = some (.int .i64 xd) := Cx.c2 (x := (xk, xa, xd)) (hbe VX.out)
          go_wp2
          exact ⟨⟨j + 1, by go_num, by omega, bal HLL.out (Nat.le_refl _) _⟩, by simp [intOf]; omega⟩
        · obtain rfl : j = n5 := by omega
          have HA := Lib.hid (HA.out.all HL.out)
          have HF := Lib.hid (HF.out.all HL.out)
          have HM := Lib.hid (HM.out.all HL.out)
          have HB := Lib.hid (HB.out.trans (HL.out.mono HB.out.size))
          have hsum : (n4 : Int) = (k : Int) + (j : Int) := by
            have h1 := HM.out.1
            have h2 := HA.out.1
            have h3 := HN.out
            rw [len_merge B1.out B2.out] at h1
            omega
          have HSUM := Lib.hid hsum; clear hsum
          clear HL HN HRW
          go_wp2_with fail
          refine (news_c A k c es A2 n2 c2 fs _ HA.out HF.out B2.out).mono ?_
          rintro e w61 ⟨A6, n6, c6, rfl, hs, hb⟩
          have HA := Lib.hid (HA.out.all hb)
          have HM := Lib.hid (HM.out.all hb)
          have HX := Lib.hid hs
          clear hs
          have HB := Lib.hid (HB.out.trans (hb.mono HB.out.size)); clear hb
          have hsum2 : n6 = j := by rw [HX.out.1, ← HW.out.1]
          subst hsum2
          have hq : ((n4 : Int) == (k : Int) + (n6 : Int)) = true := by rw [beq_iff_eq]; exact HSUM.out
          clear HSUM
          go_wp2_with fail
          refine (merge_c A k c es none 0 0 [] _ HA.out (Sc.nil _)).mono ?_
          rw [merge_nil B1.out]
          rintro e w62 ⟨A9, n9, c9, rfl, hs, hb⟩
          have HA := Lib.hid (HA.out.all hb)
          have HM := Lib.hid (HM.out.all hb)
          have H9 := Lib.hid hs
          clear hs
          have HB := Lib.hid (HB.out.trans (hb.mono HB.out.size)); clear hb
          go_wp2_with fail
          refine (same_o A9 n9 c9 _ A k c _ _ H9.out HA.out).mono ?_
          rw [sameC_refl]
          rintro e w63 ⟨rfl, hb⟩
          have HA := Lib.hid (HA.out.all hb)
          have HM := Lib.hid (HM.out.all hb)
          have HB := Lib.hid (HB.out.trans (hb.mono HB.out.size)); clear hb
          go_wp2_with fail
          refine (merge_c none 0 0 [] A k c es _ (Sc.nil _) HA.out).mono ?_
          rw [nil_merge B1.out]
          rintro e w64 ⟨A10, n10, c10, rfl, hs, hb⟩
          have HA := Lib.hid (HA.out.all hb)
          have HM := Lib.hid (HM.out.all hb)
          have H10 := Lib.hid hs
          clear hs
          have HB := Lib.hid (HB.out.trans (hb.mono HB.out.size)); clear hb
          go_wp2_with fail
          refine (same_o A10 n10 c10 _ A k c _ _ H10.out HA.out).mono ?_
          rw [sameC_refl]
          rintro e w65 ⟨rfl, hb⟩
          have HA := Lib.hid (HA.out.all hb)
          have HM := Lib.hid (HM.out.all hb)
          have HB := Lib.hid (HB.out.trans (hb.mono HB.out.size)); clear hb
          go_wp2
          go_ret
          exact ⟨rfl, HB.out⟩
end Go.Proofs.Ytgbpfknmdpkacaa.cellsFirst

namespace Go.Proofs.Ytgbpfknmdpkacaa
open Go.ChangeShapes Go.WideShapes Go.ChangeAt Go.RowKit

theorem cellsFirst_own : ownKnob Try.prog.godebug = none := by kernel_rfl
theorem cellsFirst_laid : laidOutB Try.prog = true := by kernel_rfl

set_option maxRecDepth 100000 in
theorem cellsFirst_lifted (os : Os) (started : os.Started) (H : Type) (enc : TypeId × Value → H) :
    ReturnsInHanded {} Try.checked os 7 .any (Rows.cellsFirstSpec.pre6 enc Try.prog Try.f7 Rows.cellsFirstRow.domain false) (Rows.cellsFirstSpec.post enc Try.prog Try.f7 false true false false) := by
  refine returnsInHanded_of_change_sized (C := Try.checked) cellsFirst_own started (by kernel_rfl) Try.func7
    (ChangeSpec.witness6 (enc := enc) (C := Try.checked) false ⟨#[], #[.slice none 0 0, .slice none 0 0], []⟩ 8 (by kernel_rfl) (by kernel_rfl) (by kernel_rfl) (by kernel_rfl)) ?_
  intro W base args ds gs before hval0 hW _ hsz0 _
  have hsz : (DataW.weightsEach Try.prog (Try.f7.params.toList ++ Rows.cellsFirstSpec.plain.varTypes Try.prog) (ds ++ gs)).all (· ≤ reachBytes) = true := hsz0
  have hval : ∀ (j : Nat) t v, Try.f7.params[j]? = some t → args[j]? = some v → Value.okWide Try.prog W .any base t v := hval0
  have hW' := hW
  obtain ⟨p, q, hA0, hV, rfl, hfz, hnd⟩ := hW
  have hA : DataW.TrodAll enc Try.prog W 0 (fun _ => true) true Try.f7.params.toList args.toList ds p := hA0
  rw [Try.params7] at hA hval hsz
  obtain ⟨v0, vs0, d0, ds0, p0, q0, hargs, rfl, rfl, h0, r0⟩ := trodAll_cons hA
  obtain ⟨v1, vs1, d1, ds1, p1, q1, rfl, rfl, rfl, h1, r1⟩ := trodAll_cons r0
  obtain ⟨rfl, rfl, rfl⟩ := trodAll_nil r1
  obtain rfl : args = #[v0, v1] := by cases args; simp_all
  obtain ⟨rfl, rfl⟩ := trodVars_none hV
  clear hA0 hval0
  simp only [List.append_nil] at hW'
  have hk0 := h0
  have hlt0 : ∀ x ∈ p0, x.block < W.heap.size := (fun x hx => by have := hW'.lt x (by simp [hx]); simpa using this)
  obtain ⟨A0, n0, c0, l0, rfl, hn0, hc0, hr0, hd0⟩ := open_cells Try.underlying28 (hval 0 28 v0 rfl rfl) h0 hlt0
  have hb0 := sized_places hsz (j := 0) rfl rfl Try.underlying28 hd0
  rw [show Try.prog.bytesOf 38 = 24 from by kernel_rfl] at hb0
  have hk1 := h1
  have hlt1 : ∀ x ∈ p1, x.block < W.heap.size := (fun x hx => by have := hW'.lt x (by simp [hx]); simpa using this)
  obtain ⟨A1, n1, c1, l1, rfl, hn1, hc1, hr1, hd1⟩ := open_cells Try.underlying28 (hval 1 28 v1 rfl rfl) h1 hlt1
  have hb1 := sized_places hsz (j := 1) rfl rfl Try.underlying28 hd1
  rw [show Try.prog.bytesOf 38 = 24 from by kernel_rfl] at hb1
  refine (cellsFirst.walk W A0 n0 c0 l0 ⟨hn0, hc0, by omega, hr0⟩ A1 n1 c1 l1 ⟨hn1, hc1, by omega, hr1⟩).mono fun e W' ⟨he, hb⟩ => ?_
  subst he
  exact ⟨_, rfl, _, _, _, [], _, [], hW', trodAll_cons_mk (shut_bool Try.underlying4 _) trodAll_mk0, (trodAll_cons_mk (Below.trod cellsFirst_laid (by kernel_rfl) (of_decide_eq_true (by kernel_rfl)) hk0 hb hlt0) (trodAll_cons_mk (Below.trod cellsFirst_laid (by kernel_rfl) (of_decide_eq_true (by kernel_rfl)) hk1 hb hlt1) trodAll_mk0)), rfl, hb.frame _, fun h => by cases h⟩

theorem cellsFirst_proved : Rows.CellsFirstSaid :=
  OpenClaim.holds_of_wide 7 Try.f7 rfl rfl rfl rfl rfl rfl rfl ⟨rfl, rfl, rfl, rfl, rfl⟩ rfl rfl rfl rfl rfl (by kernel_rfl) Try.func7 (by kernel_rfl)
    (of_decide_eq_true (by kernel_rfl)) (by unfold Func.isWrapper; first | (rw [if_pos (by decide +kernel)]; kernel_rfl) | (rw [if_neg (by decide +kernel)]; exact ⟨rfl, rfl⟩))
    (fun os started H enc _ => cellsFirst_lifted os started H enc)
#print axioms cellsFirst_proved
end Go.Proofs.Ytgbpfknmdpkacaa
