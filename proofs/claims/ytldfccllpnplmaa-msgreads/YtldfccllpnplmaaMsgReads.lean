/- The program's Read answers of any bytes the message and the error that the document's Read answers. Conditions: none. Conditions: none. -/
import Derived.Test.YtldfccllpnplmaaRows
import Derived.Test.YtldfccllpnplmaaG17
import Derived.Test.YtldfccllpnplmaaG29
import Derived.WalkKit
import Derived.ProofKit
import Derived.OpenShut
import Derived.Laws.Cover2
import Derived.SizedLaws
import Derived.JoinedCond
import Derived.Carry
set_option linter.unusedSimpArgs false
set_option linter.unusedVariables false
namespace Go.Proofs.Ytldfccllpnplmaa.msgReads
set_option maxRecDepth 20000
open Go.RowKit
open Cl Bk Ms Clw Bkw Msw
open Chgw (hat hbe)
open Rg (bal)

set_option maxHeartbeats 1000000 in
theorem walk (w : World) (A : Option Addr) (n c : Nat) (bs : List UInt8) (hn : n = bs.length) (hc : n ≤ c) (hr : Rd w w.heap.size A (bs.map B8)) (hl : c * 1 ≤ 140737488351232) :
    Calls Try.prog 5 #[.slice A n c] w fun e w' => e = .returned (.bool true) ∧ Below w.heap.size w w' := by
  have hbg : n ≤ big := by unfold big; omega
  have HB := Lib.hid (Below.refl w.heap.size w)
  have HR := Lib.hid hr; have HN := Lib.hid hn; have HC := Lib.hid hc; clear hr hn hc hl
  go_enter Try.func5, Try.ntmps5
  go_wp2_with (at_builtin; refine wp_copy8 rfl (.tmp 8) (.tmp 9) rfl w rfl w.heap.size A n c bs rfl HN.out HR.out (Nat.le_refl _) hbg ?_; intro A2 c2 w0 ho hb)
  have HO := Lib.hid ho; clear ho
  have HR := Lib.hid ((HR.out.below hb).more hb.size)
  have HB := Lib.hid (HB.out.trans (hb.mono HB.out.size)); clear hb
  obtain ⟨o, ho⟩ : ∃ o, o = readF bs := ⟨_, rfl⟩
  have HRF := Lib.hid ho; clear ho
  refine (read_c A2 n c2 bs HN.out HO.out.cap w0 HO.out.rd hbg).mono ?_
  rw [← HRF.out]
  rintro e w1 ⟨s, t, rfl, hm, hb⟩
  have HR := Lib.hid ((HR.out.below hb).more hb.size)
  have HB := Lib.hid (HB.out.trans (hb.mono HB.out.size)); clear hb
  clear HO
  have HM := Lib.hid (hm)
  clear hm
  unfold mvv
  go_wp2_with fail
  have HX := Lib.hid (show Mx (w1.alloc (.cells #[.int .i64 (rdM o).kind, .int .i64 (rdM o).src, .int .i64 (rdM o).dst, .int .i64 (rdM o).inc, .int .i64 (rdM o).seq, .int .i64 (rdM o).va, .int .i64 (rdM o).vd, .slice s.a s.n s.c, .slice t.a t.n t.c] 29)) w1.heap.size (rdM o) s t from hat _ _ _ rfl)
  have hb := bal (Below.refl w1.heap.size w1) (Nat.le_refl _) (.cells #[.int .i64 (rdM o).kind, .int .i64 (rdM o).src, .int .i64 (rdM o).dst, .int .i64 (rdM o).inc, .int .i64 (rdM o).seq, .int .i64 (rdM o).va, .int .i64 (rdM o).vd, .slice s.a s.n s.c, .slice t.a t.n t.c] 29)
  have HR := Lib.hid ((HR.out.below hb).more hb.size)
  have HM := Lib.hid (HM.out.all hb)
  have HB := Lib.hid (HB.out.trans (hb.mono HB.out.size)); clear hb
  generalize w1.alloc (.cells #[.int .i64 (rdM o).kind, .int .i64 (rdM o).src, .int .i64 (rdM o).dst, .int .i64 (rdM o).inc, .int .i64 (rdM o).seq, .int .i64 (rdM o).va, .int .i64 (rdM o).vd, .slice s.a s.n s.c, .slice t.a t.n t.c] 29) = v1 at HR HM HB HX ⊢
  generalize w1.heap.size = g1 at HX ⊢
  refine (read_own A n c bs HN.out HC.out v1 HR.out hbg).mono ?_
  rw [← HRF.out]
  rintro e w2 ⟨s2, t2, rfl, hm2, hb⟩
  have HM := Lib.hid (HM.out.all hb)
  have HX := Lib.hid (HX.out.all hb)
  have HB := Lib.hid (HB.out.trans (hb.mono HB.out.size)); clear hb
  have HM2 := Lib.hid (hm2)
  clear hm2
  unfold mvv
  go_wp2_with fail
  have HY := Lib.hid (show Mx (w2.alloc (.cells #[.int .i64 (rdM o).kind, .int .i64 (rdM o).src, .int .i64 (rdM o).dst, .int .i64 (rdM o).inc, .int .i64 (rdM o).seq, .int .i64 (rdM o).va, .int .i64 (rdM o).vd, .slice s2.a s2.n s2.c, .slice t2.a t2.n t2.c] 29)) w2.heap.size (rdM o) s2 t2 from hat _ _ _ rfl)
  have hb := bal (Below.refl w2.heap.size w2) (Nat.le_refl _) (.cells #[.int .i64 (rdM o).kind, .int .i64 (rdM o).src, .int .i64 (rdM o).dst, .int .i64 (rdM o).inc, .int .i64 (rdM o).seq, .int .i64 (rdM o).va, .int .i64 (rdM o).vd, .slice s2.a s2.n s2.c, .slice t2.a t2.n t2.c] 29)
  have HM := Lib.hid (HM.out.all hb)
  have HX := Lib.hid (HX.out.all hb)
  have HM2 := Lib.hid (HM2.out.all hb)
  have HB := Lib.hid (HB.out.trans (hb.mono HB.out.size)); clear hb
  generalize w2.alloc (.cells #[.int .i64 (rdM o).kind, .int .i64 (rdM o).src, .int .i64 (rdM o).dst, .int .i64 (rdM o).inc, .int .i64 (rdM o).seq, .int .i64 (rdM o).va, .int .i64 (rdM o).vd, .slice s2.a s2.n s2.c, .slice t2.a t2.n t2.c] 29) = v2 at HM HX HM2 HB HY ⊢
  generalize w2.heap.size = g2 at HY ⊢
  refine (msg_alive_c _).mono ?_
  rintro e w3 ⟨rfl, hb⟩
  have HM := Lib.hid (HM.out.all hb)
  have HX := Lib.hid (HX.out.all hb)
  have HM2 := Lib.hid (HM2.out.all hb)
  have HY := Lib.hid (HY.out.all hb)
  have HB := Lib.hid (HB.out.trans (hb.mono HB.out.size)); clear hb
  obtain ⟨x0, x1, x2, x3, x4, x5, x6, x7, x8⟩ := HX.out.cs
  obtain ⟨y0, y1, y2, y3, y4, y5, y6, y7, y8⟩ := HY.out.cs
  go_wp2_with fail
  refine (same_o (rdM o) (rdM o) s t s2 t2 _ HM.out HM2.out).mono ?_
  rw [sameM_refl]
  rintro e w4 ⟨rfl, hb⟩
  have HM := Lib.hid (HM.out.all hb)
  have HX := Lib.hid (HX.out.all hb)
  have HM2 := Lib.hid (HM2.out.all hb)
  have HY := Lib.hid (HY.out.all hb)
  have HB := Lib.hid (HB.out.trans (hb.mono HB.out.size)); clear hb
  clear x0 x1 x2 x3 x4 x5 x6 x7 x8 y0 y1 y2 y3 y4 y5 y6 y7 y8
  go_wp2
  go_ret
  exact ⟨rfl, HB.out⟩
end Go.Proofs.Ytldfccllpnplmaa.msgReads

namespace Go.Proofs.Ytldfccllpnplmaa
open Go.ChangeShapes Go.WideShapes Go.ChangeAt Go.RowKit

theorem msgReads_own : ownKnob Try.prog.godebug = none := by kernel_rfl
theorem msgReads_laid : laidOutB Try.prog = true := by kernel_rfl
theorem msgReads_cells5 : Try.prog.cellsOf 5 = 1 := by kernel_rfl
theorem msgReads_bytes5 : Try.prog.bytesOf 5 = 1 := by kernel_rfl

set_option maxRecDepth 100000 in
theorem msgReads_lifted (os : Os) (started : os.Started) (H : Type) (enc : TypeId × Value → H) :
    ReturnsInHanded {} Try.checked os 5 .any (Rows.msgReadsSpec.pre6 enc Try.prog Try.f5 Rows.msgReadsRow.domain false) (Rows.msgReadsSpec.post enc Try.prog Try.f5 false true false false) := by
  refine returnsInHanded_of_change_sized (C := Try.checked) msgReads_own started (by kernel_rfl) Try.func5
    (ChangeSpec.witness6 (enc := enc) (C := Try.checked) false ⟨#[], #[.slice none 0 0], []⟩ 8 (by kernel_rfl) (by kernel_rfl) (by kernel_rfl) (by kernel_rfl)) ?_
  intro W base args ds gs before hval0 hW _ hsz0 _
  have hsz : (DataW.weightsEach Try.prog (Try.f5.params.toList ++ Rows.msgReadsSpec.plain.varTypes Try.prog) (ds ++ gs)).all (· ≤ reachBytes) = true := hsz0
  have hval : ∀ (j : Nat) t v, Try.f5.params[j]? = some t → args[j]? = some v → Value.okWide Try.prog W .any base t v := hval0
  have hW' := hW
  obtain ⟨p, q, hA0, hV, rfl, hfz, hnd⟩ := hW
  have hA : DataW.TrodAll enc Try.prog W 0 (fun _ => true) true Try.f5.params.toList args.toList ds p := hA0
  rw [Try.params5] at hA hval hsz
  obtain ⟨v0, vs0, d0, ds0, p0, q0, hargs, rfl, rfl, h0, r0⟩ := trodAll_cons hA
  obtain ⟨rfl, rfl, rfl⟩ := trodAll_nil r0
  obtain rfl : args = #[v0] := by cases args; simp_all
  obtain ⟨rfl, rfl⟩ := trodVars_none hV
  clear hA0 hval0
  simp only [List.append_nil] at hW'
  have hk0 := h0
  have hlt0 : ∀ x ∈ p0, x.block < W.heap.size := (fun x hx => by have := hW'.lt x (by simp [hx]); simpa using this)
  obtain ⟨A0, n0, c0, l0, rfl, hn0, hc0, hr0, hd0⟩ := open_u8 Try.underlying30 Try.underlying5 msgReads_cells5 (hval 0 30 v0 rfl rfl) h0 hlt0
  have hb0 := sized_places hsz (j := 0) rfl rfl Try.underlying30 hd0
  rw [msgReads_bytes5] at hb0
  refine (msgReads.walk W A0 n0 c0 l0 hn0 hc0 hr0 hb0).mono fun e W' ⟨he, hb⟩ => ?_
  subst he
  exact ⟨_, rfl, _, _, _, [], _, [], hW', trodAll_cons_mk (shut_bool Try.underlying4 _) trodAll_mk0, (trodAll_cons_mk (Below.trod msgReads_laid (by kernel_rfl) (of_decide_eq_true (by kernel_rfl)) hk0 hb hlt0) trodAll_mk0), rfl, hb.frame _, fun h => by cases h⟩

theorem msgReads_proved : Rows.MsgReadsSaid :=
  OpenClaim.holds_of_wide 5 Try.f5 rfl rfl rfl rfl rfl rfl rfl ⟨rfl, rfl, rfl, rfl, rfl⟩ rfl rfl rfl rfl rfl (by kernel_rfl) Try.func5 (by kernel_rfl)
    (of_decide_eq_true (by kernel_rfl)) (by unfold Func.isWrapper; first | (rw [if_pos (by decide +kernel)]; kernel_rfl) | (rw [if_neg (by decide +kernel)]; exact ⟨rfl, rfl⟩))
    (fun os started H enc _ => msgReads_lifted os started H enc)
#print axioms msgReads_proved
end Go.Proofs.Ytldfccllpnplmaa
