/- DiskAgain of layer 8 (disk): a crash behind a crash changes nothing, whatever it keeps. Conditions: none. Conditions: none. -/
import Derived.Test.YtgcmejhgfdipkaaRows
import Derived.Test.YtgcmejhgfdipkaaDiskAgainW
import Derived.Test.YtgcmejhgfdipkaaOpen
import Derived.Test.YtgcmejhgfdipkaaOpenN
import Derived.Test.YtgcmejhgfdipkaaOpenQ
import Derived.WalkKit
import Derived.ProofKit
import Derived.OpenShut
import Derived.Laws.Cover2
import Derived.SizedLaws
import Derived.JoinedCond
import Derived.Carry
namespace Go.Proofs.Ytgcmejhgfdipkaa
open Go.ChangeShapes Go.WideShapes Go.ChangeAt Go.RowKit

theorem diskAgain_own : ownKnob Try.prog.godebug = none := by kernel_rfl
theorem diskAgain_laid : laidOutB Try.prog = true := by kernel_rfl
theorem diskAgain_cells3 : Try.prog.cellsOf 3 = 1 := by kernel_rfl
theorem diskAgain_bytes3 : Try.prog.bytesOf 3 = 8 := by kernel_rfl
theorem diskAgain_cells5 : Try.prog.cellsOf 5 = 1 := by kernel_rfl
theorem diskAgain_bytes5 : Try.prog.bytesOf 5 = 1 := by kernel_rfl
theorem diskAgain_cells27 : Try.prog.cellsOf 27 = 1 := by kernel_rfl
theorem diskAgain_cells46 : Try.prog.cellsOf 46 = 2 := by kernel_rfl

set_option maxRecDepth 100000 in
theorem diskAgain_lifted (os : Os) (started : os.Started) (H : Type) (enc : TypeId × Value → H) :
    ReturnsInHanded {} Try.checked os 8 .any (Rows.diskAgainSpec.pre6 enc Try.prog Try.f8 Rows.diskAgainRow.domain false) (Rows.diskAgainSpec.post enc Try.prog Try.f8 false true false false) := by
  refine returnsInHanded_of_change_sized (C := Try.checked) diskAgain_own started (by kernel_rfl) Try.func8
    (ChangeSpec.witness6 (enc := enc) (C := Try.checked) false ⟨#[], #[.slice none 0 0, .agg #[.int .i64 0, .int .i64 0]], []⟩ 8 (by kernel_rfl) (by kernel_rfl) (by kernel_rfl) (by kernel_rfl)) ?_
  intro W base args ds gs before hval0 hW _ hsz0 _
  have hsz : (DataW.weightsEach Try.prog (Try.f8.params.toList ++ Rows.diskAgainSpec.plain.varTypes Try.prog) (ds ++ gs)).all (· ≤ reachBytes) = true := hsz0
  have hval : ∀ (j : Nat) t v, Try.f8.params[j]? = some t → args[j]? = some v → Value.okWide Try.prog W .any base t v := hval0
  have hW' := hW
  obtain ⟨p, q, hA0, hV, rfl, hfz, hnd⟩ := hW
  have hA : DataW.TrodAll enc Try.prog W 0 (fun _ => true) true Try.f8.params.toList args.toList ds p := hA0
  rw [Try.params8] at hA hval hsz
  obtain ⟨v0, vs0, d0, ds0, p0, q0, hargs, rfl, rfl, h0, r0⟩ := trodAll_cons hA
  obtain ⟨v1, vs1, d1, ds1, p1, q1, rfl, rfl, rfl, h1, r1⟩ := trodAll_cons r0
  obtain ⟨rfl, rfl, rfl⟩ := trodAll_nil r1
  obtain rfl : args = #[v0, v1] := by cases args; simp_all
  obtain ⟨rfl, rfl⟩ := trodVars_none hV
  clear hA0 hval0
  simp only [List.append_nil] at hW'
  have hk0 := h0
  have hlt0 : ∀ x ∈ p0, x.block < W.heap.size := (fun x hx => by have := hW'.lt x (by simp [hx]); simpa using this)
  obtain ⟨A0, n0, c0, l0, rfl, hn0, hc0, hr0, hd0⟩ := open_acts Try.underlying28 Try.underlying33 (by kernel_rfl) rfl rfl rfl rfl rfl rfl Try.underlying3 diskAgain_cells3 Try.underlying27 Try.underlying5 diskAgain_cells27 diskAgain_cells5 diskAgain_bytes5 (hval 0 28 v0 rfl rfl) h0 hlt0 (sized_of hsz (j := 0) rfl rfl)
  have hb0 := sized_places hsz (j := 0) rfl rfl Try.underlying28 hd0
  rw [show Try.prog.bytesOf 33 = 40 from by kernel_rfl] at hb0
  have hk1 := h1
  have hlt1 : ∀ x ∈ p1, x.block < W.heap.size := (fun x hx => by have := hW'.lt x (by simp [hx]); simpa using this)
  obtain ⟨a1, b1, rfl, wa1, wb1⟩ := open_n2 Try.underlying46 Try.underlying3 diskAgain_cells46 diskAgain_cells3 (hval 1 46 v1 rfl rfl) h1
  refine (diskAgain.walk W A0 n0 c0 l0 hn0 (by unfold big; omega) hr0 a1 wa1 b1 wb1).mono fun e W' ⟨he, hb⟩ => ?_
  subst he
  exact ⟨_, rfl, _, _, _, [], _, [], hW', trodAll_cons_mk (shut_bool Try.underlying4 _) trodAll_mk0, (trodAll_cons_mk (Below.trod diskAgain_laid (by kernel_rfl) (of_decide_eq_true (by kernel_rfl)) hk0 hb hlt0) (trodAll_cons_mk (Below.trod diskAgain_laid (by kernel_rfl) (of_decide_eq_true (by kernel_rfl)) hk1 hb hlt1) trodAll_mk0)), rfl, hb.frame _, fun h => by cases h⟩

theorem diskAgain_proved : Rows.DiskAgainSaid :=
  OpenClaim.holds_of_wide 8 Try.f8 rfl rfl rfl rfl rfl rfl rfl ⟨rfl, rfl, rfl, rfl, rfl⟩ rfl rfl rfl rfl rfl (by kernel_rfl) Try.func8 (by kernel_rfl)
    (of_decide_eq_true (by kernel_rfl)) (by unfold Func.isWrapper; first | (rw [if_pos (by decide +kernel)]; kernel_rfl) | (rw [if_neg (by decide +kernel)]; exact ⟨rfl, rfl⟩))
    (fun os started H enc _ => diskAgain_lifted os started H enc)
#print axioms diskAgain_proved
end Go.Proofs.Ytgcmejhgfdipkaa
