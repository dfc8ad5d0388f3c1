/- DiskRuns of layer 8 (disk): whatever is done with a disk, it answers as the document's disk. Conditions: none. Conditions: none. -/
import Derived.Test.YtgcmejhgfdipkaaRows
import Derived.Test.YtgcmejhgfdipkaaDiskRunsW
import Derived.Test.YtgcmejhgfdipkaaOpen
import Derived.Test.YtgcmejhgfdipkaaOpenQ
import Derived.WalkKit
import Derived.ProofKit
import Derived.OpenShut
import Derived.Laws.Cover2
import Derived.SizedLaws
import Derived.JoinedCond
import Derived.Carry
namespace Go.Proofs.Ytgcmejhgfdipkaa
open Go.ChangeShapes Go.WideShapes Go.ChangeAt Go.RowKit

theorem diskRuns_own : ownKnob Try.prog.godebug = none := by kernel_rfl
theorem diskRuns_laid : laidOutB Try.prog = true := by kernel_rfl
theorem diskRuns_cells3 : Try.prog.cellsOf 3 = 1 := by kernel_rfl
theorem diskRuns_bytes3 : Try.prog.bytesOf 3 = 8 := by kernel_rfl
theorem diskRuns_cells5 : Try.prog.cellsOf 5 = 1 := by kernel_rfl
theorem diskRuns_bytes5 : Try.prog.bytesOf 5 = 1 := by kernel_rfl
theorem diskRuns_cells27 : Try.prog.cellsOf 27 = 1 := by kernel_rfl

set_option maxRecDepth 100000 in
theorem diskRuns_lifted (os : Os) (started : os.Started) (H : Type) (enc : TypeId × Value → H) :
    ReturnsInHanded {} Try.checked os 4 .any (Rows.diskRunsSpec.pre6 enc Try.prog Try.f4 Rows.diskRunsRow.domain false) (Rows.diskRunsSpec.post enc Try.prog Try.f4 false true false false) := by
  refine returnsInHanded_of_change_sized (C := Try.checked) diskRuns_own started (by kernel_rfl) Try.func4
    (ChangeSpec.witness6 (enc := enc) (C := Try.checked) false ⟨#[], #[.int .i64 0, .slice none 0 0], []⟩ 8 (by kernel_rfl) (by kernel_rfl) (by kernel_rfl) (by kernel_rfl)) ?_
  intro W base args ds gs before hval0 hW _ hsz0 _
  have hsz : (DataW.weightsEach Try.prog (Try.f4.params.toList ++ Rows.diskRunsSpec.plain.varTypes Try.prog) (ds ++ gs)).all (· ≤ reachBytes) = true := hsz0
  have hval : ∀ (j : Nat) t v, Try.f4.params[j]? = some t → args[j]? = some v → Value.okWide Try.prog W .any base t v := hval0
  have hW' := hW
  obtain ⟨p, q, hA0, hV, rfl, hfz, hnd⟩ := hW
  have hA : DataW.TrodAll enc Try.prog W 0 (fun _ => true) true Try.f4.params.toList args.toList ds p := hA0
  rw [Try.params4] at hA hval hsz
  obtain ⟨v0, vs0, d0, ds0, p0, q0, hargs, rfl, rfl, h0, r0⟩ := trodAll_cons hA
  obtain ⟨v1, vs1, d1, ds1, p1, q1, rfl, rfl, rfl, h1, r1⟩ := trodAll_cons r0
  obtain ⟨rfl, rfl, rfl⟩ := trodAll_nil r1
  obtain rfl : args = #[v0, v1] := by cases args; simp_all
  obtain ⟨rfl, rfl⟩ := trodVars_none hV
  clear hA0 hval0
  simp only [List.append_nil] at hW'
  obtain ⟨a0, rfl, rfl, rfl, w0⟩ := open_int Try.underlying3 (hval 0 3 v0 rfl rfl) h0
  have hk1 := h1
  have hlt1 : ∀ x ∈ p1, x.block < W.heap.size := (fun x hx => by have := hW'.lt x (by simp [hx]); simpa using this)
  obtain ⟨A1, n1, c1, l1, rfl, hn1, hc1, hr1, hd1⟩ := open_acts Try.underlying28 Try.underlying33 (by kernel_rfl) rfl rfl rfl rfl rfl rfl Try.underlying3 diskRuns_cells3 Try.underlying27 Try.underlying5 diskRuns_cells27 diskRuns_cells5 diskRuns_bytes5 (hval 1 28 v1 rfl rfl) h1 hlt1 (sized_of hsz (j := 1) rfl rfl)
  have hb1 := sized_places hsz (j := 1) rfl rfl Try.underlying28 hd1
  rw [show Try.prog.bytesOf 33 = 40 from by kernel_rfl] at hb1
  refine (diskRuns.walk W a0 w0 A1 n1 c1 l1 hn1 (by unfold big; omega) hr1).mono fun e W' ⟨he, hb⟩ => ?_
  subst he
  exact ⟨_, rfl, _, _, _, [], _, [], hW', trodAll_cons_mk (shut_bool Try.underlying4 _) trodAll_mk0, (trodAll_cons_mk (shut_int Try.underlying3 w0) (trodAll_cons_mk (Below.trod diskRuns_laid (by kernel_rfl) (of_decide_eq_true (by kernel_rfl)) hk1 hb hlt1) trodAll_mk0)), rfl, hb.frame _, fun h => by cases h⟩

theorem diskRuns_proved : Rows.DiskRunsSaid :=
  OpenClaim.holds_of_wide 4 Try.f4 rfl rfl rfl rfl rfl rfl rfl ⟨rfl, rfl, rfl, rfl, rfl⟩ rfl rfl rfl rfl rfl (by kernel_rfl) Try.func4 (by kernel_rfl)
    (of_decide_eq_true (by kernel_rfl)) (by unfold Func.isWrapper; first | (rw [if_pos (by decide +kernel)]; kernel_rfl) | (rw [if_neg (by decide +kernel)]; exact ⟨rfl, rfl⟩))
    (fun os started H enc _ => diskRuns_lifted os started H enc)
#print axioms diskRuns_proved
end Go.Proofs.Ytgcmejhgfdipkaa
