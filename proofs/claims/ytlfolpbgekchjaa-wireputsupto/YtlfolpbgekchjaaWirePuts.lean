/- WirePuts answers true for any bytes, text and numbers: what is put is the document's, and what was handed in stays. Conditions: what comes in holds together at most 1048576 values and letters. -/
import Derived.Test.YtlfolpbgekchjaaRows
import Derived.Test.YtlfolpbgekchjaaWirePutsW
import Derived.Test.YtlfolpbgekchjaaOpen
import Derived.WalkKit
import Derived.ProofKit
import Derived.OpenShut
import Derived.Laws.Cover2
import Derived.SizedLaws
import Derived.JoinedCond
import Derived.Carry
namespace Go.Proofs.Ytlfolpbgekchjaa
open Go.ChangeShapes Go.WideShapes Go.ChangeAt Go.RowKit

theorem wirePuts_own : ownKnob Try.prog.godebug = none := by kernel_rfl
theorem wirePuts_laid : laidOutB Try.prog = true := by kernel_rfl
theorem wirePuts_cells5 : Try.prog.cellsOf 5 = 1 := by kernel_rfl
theorem wirePuts_bytes5 : Try.prog.bytesOf 5 = 1 := by kernel_rfl
theorem wirePuts_cells22 : Try.prog.cellsOf 22 = 1 := by kernel_rfl
theorem wirePuts_bytes22 : Try.prog.bytesOf 22 = 8 := by kernel_rfl

set_option maxRecDepth 100000 in
theorem wirePuts_lifted (os : Os) (started : os.Started) (H : Type) (enc : TypeId × Value → H) (F : Stop.Interp) :
    ReturnsInHanded {} Try.checked os 4 .any ((Rows.OpenSpec.upto Rows.wirePutsSpec).pre6 enc Try.prog Try.f4 Rows.wirePutsUptoRow.domain false) (((Rows.OpenSpec.upto Rows.wirePutsSpec).at F).post enc Try.prog Try.f4 false true false false) := by
  refine returnsInHanded_of_cond (C := Try.checked) (s := Rows.OpenSpec.upto Rows.wirePutsSpec) (k := Rows.uptoSmall) rfl wirePuts_own started (by kernel_rfl) Try.func4
    (OpenSpec.witness (enc := enc) (C := Try.checked) (s := Rows.OpenSpec.upto Rows.wirePutsSpec) (k := Rows.uptoSmall) rfl false ⟨#[], #[.slice none 0 0, .slice none 0 0, .slice none 0 0], []⟩ 8 (by kernel_rfl) (by kernel_rfl) (by kernel_rfl)
      (x := ([.nil, .nil, .nil], [], [])) (by kernel_rfl) rfl (by kernel_rfl)) ?_
  intro W base args ds gs before hval0 hW _ hk _
  have hval : ∀ (j : Nat) t v, Try.f4.params[j]? = some t → args[j]? = some v → Value.okWide Try.prog W .any base t v := hval0
  have hW' := hW
  obtain ⟨p, q, hA0, hV, rfl, hfz, hnd⟩ := hW
  have hA : DataW.TrodAll enc Try.prog W 0 (fun _ => true) true Try.f4.params.toList args.toList ds p := hA0
  rw [Try.params4] at hA hval
  obtain ⟨v0, vs0, d0, ds0, p0, q0, hargs, rfl, rfl, h0, r0⟩ := trodAll_cons hA
  obtain ⟨v1, vs1, d1, ds1, p1, q1, rfl, rfl, rfl, h1, r1⟩ := trodAll_cons r0
  obtain ⟨v2, vs2, d2, ds2, p2, q2, rfl, rfl, rfl, h2, r2⟩ := trodAll_cons r1
  obtain ⟨rfl, rfl, rfl⟩ := trodAll_nil r2
  obtain rfl : args = #[v0, v1, v2] := by cases args; simp_all
  obtain ⟨rfl, rfl⟩ := trodVars_none hV
  clear hA0 hval0
  simp only [List.append_nil] at hW' hk
  have hk0 := h0
  have hlt0 : ∀ x ∈ p0, x.block < W.heap.size := (fun x hx => by have := hW'.lt x (by simp [hx]); simpa using this)
  obtain ⟨A0, n0, c0, l0, rfl, hn0, hc0, hr0, hd0⟩ := open_u8 Try.underlying23 Try.underlying5 wirePuts_cells5 (hval 0 23 v0 rfl rfl) h0 hlt0
  have hb0 := upto_places hk (j := 0) rfl hd0
  have hk1 := h1
  have hlt1 : ∀ x ∈ p1, x.block < W.heap.size := (fun x hx => by have := hW'.lt x (by simp [hx]); simpa using this)
  obtain ⟨A1, n1, c1, l1, rfl, hn1, hc1, hr1, hd1⟩ := open_u8 Try.underlying23 Try.underlying5 wirePuts_cells5 (hval 1 23 v1 rfl rfl) h1 hlt1
  have hb1 := upto_places hk (j := 1) rfl hd1
  have hk2 := h2
  have hlt2 : ∀ x ∈ p2, x.block < W.heap.size := (fun x hx => by have := hW'.lt x (by simp [hx]); simpa using this)
  obtain ⟨A2, n2, c2, l2, rfl, hn2, hc2, hr2, hw2, hd2⟩ := open_u64 Try.underlying28 Try.underlying22 wirePuts_cells22 (hval 2 28 v2 rfl rfl) h2 hlt2
  have hb2 := upto_places hk (j := 2) rfl hd2
  refine (wirePuts.walk W A0 n0 c0 l0 hn0 hc0 hr0 hb0 A1 n1 c1 l1 hn1 hc1 hr1 hb1 A2 n2 c2 l2 hn2 hc2 hr2 hw2 hb2).mono fun e W' ⟨he, hb⟩ => ?_
  subst he
  exact ⟨_, rfl, _, _, _, [], _, [], hW', trodAll_cons_mk (shut_bool Try.underlying4 _) trodAll_mk0, (trodAll_cons_mk (Below.trod wirePuts_laid (by kernel_rfl) (of_decide_eq_true (by kernel_rfl)) hk0 hb hlt0) (trodAll_cons_mk (Below.trod wirePuts_laid (by kernel_rfl) (of_decide_eq_true (by kernel_rfl)) hk1 hb hlt1) (trodAll_cons_mk (Below.trod wirePuts_laid (by kernel_rfl) (of_decide_eq_true (by kernel_rfl)) hk2 hb hlt2) trodAll_mk0))), rfl, hb.frame _, fun h => by cases h⟩

theorem wirePuts_proved : Rows.WirePutsUptoSaid :=
  OpenClaim.holds_of_cond 4 Try.f4 rfl rfl rfl rfl rfl rfl rfl ⟨rfl, rfl, rfl, rfl, rfl⟩ rfl rfl rfl rfl rfl (by kernel_rfl) Try.func4 (by kernel_rfl)
    (of_decide_eq_true (by kernel_rfl)) (by unfold Func.isWrapper; first | (rw [if_pos (by decide +kernel)]; kernel_rfl) | (rw [if_neg (by decide +kernel)]; exact ⟨rfl, rfl⟩))
    (fun os started H enc _ F => wirePuts_lifted os started H enc F)
#print axioms wirePuts_proved
end Go.Proofs.Ytlfolpbgekchjaa
