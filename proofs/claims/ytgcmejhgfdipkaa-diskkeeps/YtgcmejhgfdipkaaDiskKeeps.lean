/- DiskKeeps of layer 8 (disk): what is safe stays: behind any crash, and wherever the power went, what was synced is there. Conditions: none. Conditions: none. -/
import Derived.Test.YtgcmejhgfdipkaaRows
import Derived.Test.YtgcmejhgfdipkaaDiskKeepsW
import Derived.Test.YtgcmejhgfdipkaaOpen
import Derived.Test.YtgcmejhgfdipkaaOpenQ
import Derived.WalkKit
import Derived.ProofKit
import Derived.OpenShut
import Derived.Laws.Cover2
import Derived.SizedLaws
import Derived.JoinedCond
import Derived.Carry
namespace Go.Proofs.Ytgcmejhgfdipkaa
open Go.ChangeShapes Go.WideShapes Go.ChangeAt Go.RowKit

theorem diskKeeps_own : ownKnob Try.prog.godebug = none := by kernel_rfl
theorem diskKeeps_laid : laidOutB Try.prog = true := by kernel_rfl
theorem diskKeeps_cells3 : Try.prog.cellsOf 3 = 1 := by kernel_rfl
theorem diskKeeps_bytes3 : Try.prog.bytesOf 3 = 8 := by kernel_rfl
theorem diskKeeps_cells5 : Try.prog.cellsOf 5 = 1 := by kernel_rfl
theorem diskKeeps_bytes5 : Try.prog.bytesOf 5 = 1 := by kernel_rfl
theorem diskKeeps_cells27 : Try.prog.cellsOf 27 = 1 := by kernel_rfl

set_option maxRecDepth 100000 in
theorem diskKeeps_lifted (os : Os) (started : os.Started) (H : Type) (enc : TypeId × Value → H) :
    ReturnsInHanded {} Try.checked os 5 .any (Rows.diskKeepsSpec.pre6 enc Try.prog Try.f5 Rows.diskKeepsRow.domain false) (Rows.diskKeepsSpec.post enc Try.prog Try.f5 false true false false) := by
  refine returnsInHanded_of_change_sized (C := Try.checked) diskKeeps_own started (by kernel_rfl) Try.func5
    (ChangeSpec.witness6 (enc := enc) (C := Try.checked) false ⟨#[], #[.slice none 0 0, .int .i64 0, .int .i64 0], []⟩ 8 (by kernel_rfl) (by kernel_rfl) (by kernel_rfl) (by kernel_rfl)) ?_
  intro W base args ds gs before hval0 hW _ hsz0 _
  have hsz : (DataW.weightsEach Try.prog (Try.f5.params.toList ++ Rows.diskKeepsSpec.plain.varTypes Try.prog) (ds ++ gs)).all (· ≤ reachBytes) = true := hsz0
  have hval : ∀ (j : Nat) t v, Try.f5.params[j]? = some t → args[j]? = some v → Value.okWide Try.prog W .any base t v := hval0
  have hW' := hW
  obtain ⟨p, q, hA0, hV, rfl, hfz, hnd⟩ := hW
  have hA : DataW.TrodAll enc Try.prog W 0 (fun _ => true) true Try.f5.params.toList args.toList ds p := hA0
  rw [Try.params5] at hA hval hsz
  obtain ⟨v0, vs0, d0, ds0, p0, q0, hargs, rfl, rfl, h0, r0⟩ := trodAll_cons hA
  obtain ⟨v1, vs1, d1, ds1, p1, q1, rfl, rfl, rfl, h1, r1⟩ := trodAll_cons r0
  obtain ⟨v2, vs2, d2, ds2, p2, q2, rfl, rfl, rfl, h2, r2⟩ := trodAll_cons r1
  obtain ⟨rfl, rfl, rfl⟩ := trodAll_nil r2
  obtain rfl : args = #[v0, v1, v2] := by cases args; simp_all
  obtain ⟨rfl, rfl⟩ := trodVars_none hV
  clear hA0 hval0
  simp only [List.append_nil] at hW'
  have hk0 := h0
  have hlt0 : ∀ x ∈ p0, x.block < W.heap.size := (fun x hx => by have := hW'.lt x (by simp [hx]); simpa using this)
  obtain ⟨A0, n0, c0, l0, rfl, hn0, hc0, hr0, hd0⟩ := open_acts Try.underlying28 Try.underlying33 (by kernel_rfl) rfl rfl rfl rfl rfl rfl Try.underlying3 diskKeeps_cells3 Try.underlying27 Try.underlying5 diskKeeps_cells27 diskKeeps_cells5 diskKeeps_bytes5 (hval 0 28 v0 rfl rfl) h0 hlt0 (sized_of hsz (j := 0) rfl rfl)
  have hb0 := sized_places hsz (j := 0) rfl rfl Try.underlying28 hd0
  rw [show Try.prog.bytesOf 33 = 40 from by kernel_rfl] at hb0
  obtain ⟨a1, rfl, rfl, rfl, w1⟩ := open_int Try.underlying3 (hval 1 3 v1 rfl rfl) h1
  obtain ⟨a2, rfl, rfl, rfl, w2⟩ := open_int Try.underlying3 (hval 2 3 v2 rfl rfl) h2
  refine (diskKeeps.walk W A0 n0 c0 l0 hn0 (by unfold big; omega) hr0 a1 w1 a2 w2).mono fun e W' ⟨he, hb⟩ => ?_
  subst he
  exact ⟨_, rfl, _, _, _, [], _, [], hW', trodAll_cons_mk (shut_bool Try.underlying4 _) trodAll_mk0, (trodAll_cons_mk (Below.trod diskKeeps_laid (by kernel_rfl) (of_decide_eq_true (by kernel_rfl)) hk0 hb hlt0) (trodAll_cons_mk (shut_int Try.underlying3 w1) (trodAll_cons_mk (shut_int Try.underlying3 w2) trodAll_mk0))), rfl, hb.frame _, fun h => by cases h⟩

theorem diskKeeps_proved : Rows.DiskKeepsSaid :=
  OpenClaim.holds_of_wide 5 Try.f5 rfl rfl rfl rfl rfl rfl rfl ⟨rfl, rfl, rfl, rfl, rfl⟩ rfl rfl rfl rfl rfl (by kernel_rfl) Try.func5 (by kernel_rfl)
    (of_decide_eq_true (by kernel_rfl)) (by unfold Func.isWrapper; first | (rw [if_pos (by decide +kernel)]; kernel_rfl) | (rw [if_neg (by decide +kernel)]; exact ⟨rfl, rfl⟩))
    (fun os started H enc _ => diskKeeps_lifted os started H enc)
#print axioms diskKeeps_proved
end Go.Proofs.Ytgcmejhgfdipkaa
