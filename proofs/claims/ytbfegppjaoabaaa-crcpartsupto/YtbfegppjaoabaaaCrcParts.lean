/- However bytes are cut, their sum is the same, and what is sealed is opened. Conditions: what comes in holds together at most 1048576 values and letters. -/
import Derived.Test.YtbfegppjaoabaaaRows
import Derived.Test.YtbfegppjaoabaaaCrcPartsW
import Derived.Test.YtbfegppjaoabaaaOpen
import Derived.Test.YtbfegppjaoabaaaOpenP
import Derived.WalkKit
import Derived.ProofKit
import Derived.OpenShut
import Derived.Laws.Cover2
import Derived.SizedLaws
import Derived.JoinedCond
import Derived.Carry
namespace Go.Proofs.Ytbfegppjaoabaaa
open Go.ChangeShapes Go.WideShapes Go.ChangeAt Go.RowKit

theorem crcParts_own : ownKnob Try.prog.godebug = none := by kernel_rfl
theorem crcParts_laid : laidOutB Try.prog = true := by kernel_rfl
theorem crcParts_cells5 : Try.prog.cellsOf 5 = 1 := by kernel_rfl
theorem crcParts_bytes5 : Try.prog.bytesOf 5 = 1 := by kernel_rfl
theorem crcParts_cells22 : Try.prog.cellsOf 22 = 1 := by kernel_rfl

set_option maxRecDepth 100000 in
theorem crcParts_lifted (os : Os) (started : os.Started) (H : Type) (enc : TypeId × Value → H) (F : Stop.Interp) :
    ReturnsInHanded {} Try.checked os 7 .any ((Rows.OpenSpec.upto Rows.crcPartsSpec).pre6 enc Try.prog Try.f7 Rows.crcPartsUptoRow.domain false) (((Rows.OpenSpec.upto Rows.crcPartsSpec).at F).post enc Try.prog Try.f7 false true false false) := by
  refine returnsInHanded_of_cond (C := Try.checked) (s := Rows.OpenSpec.upto Rows.crcPartsSpec) (k := Rows.uptoSmall) rfl crcParts_own started (by kernel_rfl) Try.func7
    (OpenSpec.witness (enc := enc) (C := Try.checked) (s := Rows.OpenSpec.upto Rows.crcPartsSpec) (k := Rows.uptoSmall) rfl false ⟨#[], #[.slice none 0 0], []⟩ 8 (by kernel_rfl) (by kernel_rfl) (by kernel_rfl)
      (x := ([.nil], [], [])) (by kernel_rfl) rfl (by kernel_rfl)) ?_
  intro W base args ds gs before hval0 hW _ hk _
  have hval : ∀ (j : Nat) t v, Try.f7.params[j]? = some t → args[j]? = some v → Value.okWide Try.prog W .any base t v := hval0
  have hW' := hW
  obtain ⟨p, q, hA0, hV, rfl, hfz, hnd⟩ := hW
  have hA : DataW.TrodAll enc Try.prog W 0 (fun _ => true) true Try.f7.params.toList args.toList ds p := hA0
  rw [Try.params7] at hA hval
  obtain ⟨v0, vs0, d0, ds0, p0, q0, hargs, rfl, rfl, h0, r0⟩ := trodAll_cons hA
  obtain ⟨rfl, rfl, rfl⟩ := trodAll_nil r0
  obtain rfl : args = #[v0] := by cases args; simp_all
  obtain ⟨rfl, rfl⟩ := trodVars_none hV
  clear hA0 hval0
  simp only [List.append_nil] at hW' hk
  have hk0 := h0
  have hlt0 : ∀ x ∈ p0, x.block < W.heap.size := (fun x hx => by have := hW'.lt x (by simp [hx]); simpa using this)
  obtain ⟨A0, n0, c0, l0, rfl, hn0, hr0, hp0, hd0⟩ := open_parts Try.underlying36 Try.underlying22 Try.underlying5 crcParts_cells22 crcParts_cells5 (hval 0 36 v0 rfl rfl) h0 hlt0
  have hb0 := upto_bulk hk (j := 0) rfl hd0
  refine (crcParts.walk W A0 n0 c0 l0 hn0 hr0 hp0 hb0).mono fun e W' ⟨he, hb⟩ => ?_
  subst he
  exact ⟨_, rfl, _, _, _, [], _, [], hW', trodAll_cons_mk (shut_bool Try.underlying4 _) trodAll_mk0, (trodAll_cons_mk (Below.trod crcParts_laid (by kernel_rfl) (of_decide_eq_true (by kernel_rfl)) hk0 hb hlt0) trodAll_mk0), rfl, hb.frame _, fun h => by cases h⟩

theorem crcParts_proved : Rows.CrcPartsUptoSaid :=
  OpenClaim.holds_of_cond 7 Try.f7 rfl rfl rfl rfl rfl rfl rfl ⟨rfl, rfl, rfl, rfl, rfl⟩ rfl rfl rfl rfl rfl (by kernel_rfl) Try.func7 (by kernel_rfl)
    (of_decide_eq_true (by kernel_rfl)) (by unfold Func.isWrapper; first | (rw [if_pos (by decide +kernel)]; kernel_rfl) | (rw [if_neg (by decide +kernel)]; exact ⟨rfl, rfl⟩))
    (fun os started H enc _ F => crcParts_lifted os started H enc F)
#print axioms crcParts_proved
end Go.Proofs.Ytbfegppjaoabaaa
