/- Two lists of nodes that are enough in one view have a member of it in common. Conditions: none. -/
import Derived.Test.YtofjdfnoibfdfaaRows
import Derived.Test.YtofjdfnoibfdfaaViewMeetsW
import Derived.Test.YtofjdfnoibfdfaaOpen
import Derived.Test.YtofjdfnoibfdfaaOpenV
import Derived.WalkKit
import Derived.ProofKit
import Derived.OpenShut
import Derived.Laws.Cover2
import Derived.SizedLaws
import Derived.JoinedCond
import Derived.Carry
namespace Go.Proofs.Ytofjdfnoibfdfaa
open Go.ChangeShapes Go.WideShapes Go.ChangeAt Go.RowKit

theorem viewMeets_own : ownKnob Try.prog.godebug = none := by kernel_rfl
theorem viewMeets_laid : laidOutB Try.prog = true := by kernel_rfl
theorem viewMeets_cells3 : Try.prog.cellsOf 3 = 1 := by kernel_rfl
theorem viewMeets_bytes3 : Try.prog.bytesOf 3 = 8 := by kernel_rfl

set_option maxRecDepth 100000 in
theorem viewMeets_lifted (os : Os) (started : os.Started) (H : Type) (enc : TypeId × Value → H) :
    ReturnsInHanded {} Try.checked os 6 .any (Rows.viewMeetsSpec.pre6 enc Try.prog Try.f6 Rows.viewMeetsRow.domain false) (Rows.viewMeetsSpec.post enc Try.prog Try.f6 false true false false) := by
  refine returnsInHanded_of_change_sized (C := Try.checked) viewMeets_own started (by kernel_rfl) Try.func6
    (ChangeSpec.witness6 (enc := enc) (C := Try.checked) false ⟨#[], #[.agg #[.int .i64 0, .int .i64 0], .slice none 0 0, .slice none 0 0], []⟩ 8 (by kernel_rfl) (by kernel_rfl) (by kernel_rfl) (by kernel_rfl)) ?_
  intro W base args ds gs before hval0 hW _ hsz0 _
  have hsz : (DataW.weightsEach Try.prog (Try.f6.params.toList ++ Rows.viewMeetsSpec.plain.varTypes Try.prog) (ds ++ gs)).all (· ≤ reachBytes) = true := hsz0
  have hval : ∀ (j : Nat) t v, Try.f6.params[j]? = some t → args[j]? = some v → Value.okWide Try.prog W .any base t v := hval0
  have hW' := hW
  obtain ⟨p, q, hA0, hV, rfl, hfz, hnd⟩ := hW
  have hA : DataW.TrodAll enc Try.prog W 0 (fun _ => true) true Try.f6.params.toList args.toList ds p := hA0
  rw [Try.params6] at hA hval hsz
  obtain ⟨v0, vs0, d0, ds0, p0, q0, hargs, rfl, rfl, h0, r0⟩ := trodAll_cons hA
  obtain ⟨v1, vs1, d1, ds1, p1, q1, rfl, rfl, rfl, h1, r1⟩ := trodAll_cons r0
  obtain ⟨v2, vs2, d2, ds2, p2, q2, rfl, rfl, rfl, h2, r2⟩ := trodAll_cons r1
  obtain ⟨rfl, rfl, rfl⟩ := trodAll_nil r2
  obtain rfl : args = #[v0, v1, v2] := by cases args; simp_all
  obtain ⟨rfl, rfl⟩ := trodVars_none hV
  clear hA0 hval0
  simp only [List.append_nil] at hW'
  have hk0 := h0
  have hlt0 : ∀ x ∈ p0, x.block < W.heap.size := (fun x hx => by have := hW'.lt x (by simp [hx]); simpa using this)
  obtain ⟨a0, b0, rfl, wa0, wb0⟩ := open_view (hval 0 25 v0 rfl rfl) h0
  have hk1 := h1
  have hlt1 : ∀ x ∈ p1, x.block < W.heap.size := (fun x hx => by have := hW'.lt x (by simp [hx]); simpa using this)
  obtain ⟨A1, n1, c1, l1, rfl, hn1, hc1, hr1, hw1, hd1⟩ := open_i64 Try.underlying28 Try.underlying3 viewMeets_cells3 (hval 1 28 v1 rfl rfl) h1 hlt1
  have hb1 := sized_places hsz (j := 1) rfl rfl Try.underlying28 hd1
  rw [viewMeets_bytes3] at hb1
  have hk2 := h2
  have hlt2 : ∀ x ∈ p2, x.block < W.heap.size := (fun x hx => by have := hW'.lt x (by simp [hx]); simpa using this)
  obtain ⟨A2, n2, c2, l2, rfl, hn2, hc2, hr2, hw2, hd2⟩ := open_i64 Try.underlying28 Try.underlying3 viewMeets_cells3 (hval 2 28 v2 rfl rfl) h2 hlt2
  have hb2 := sized_places hsz (j := 2) rfl rfl Try.underlying28 hd2
  rw [viewMeets_bytes3] at hb2
  refine (viewMeets.walk W a0 wa0 b0 wb0 A1 n1 c1 l1 hn1 hc1 hr1 hw1 hb1 A2 n2 c2 l2 hn2 hc2 hr2 hw2 hb2).mono fun e W' ⟨he, hb⟩ => ?_
  subst he
  exact ⟨_, rfl, _, _, _, [], _, [], hW', trodAll_cons_mk (shut_bool Try.underlying4 _) trodAll_mk0, (trodAll_cons_mk (Below.trod viewMeets_laid (by kernel_rfl) (of_decide_eq_true (by kernel_rfl)) hk0 hb hlt0) (trodAll_cons_mk (Below.trod viewMeets_laid (by kernel_rfl) (of_decide_eq_true (by kernel_rfl)) hk1 hb hlt1) (trodAll_cons_mk (Below.trod viewMeets_laid (by kernel_rfl) (of_decide_eq_true (by kernel_rfl)) hk2 hb hlt2) trodAll_mk0))), rfl, hb.frame _, fun h => by cases h⟩

theorem viewMeets_proved : Rows.ViewMeetsSaid :=
  OpenClaim.holds_of_wide 6 Try.f6 rfl rfl rfl rfl rfl rfl rfl ⟨rfl, rfl, rfl, rfl, rfl⟩ rfl rfl rfl rfl rfl (by kernel_rfl) Try.func6 (by kernel_rfl)
    (of_decide_eq_true (by kernel_rfl)) (by unfold Func.isWrapper; first | (rw [if_pos (by decide +kernel)]; kernel_rfl) | (rw [if_neg (by decide +kernel)]; exact ⟨rfl, rfl⟩))
    (fun os started H enc _ => viewMeets_lifted os started H enc)
#print axioms viewMeets_proved
end Go.Proofs.Ytofjdfnoibfdfaa
