/- What the document's Join of layer 4 answers: a contract by a walk. -/
import Derived.Test.YtjmbgajaflcbaaaChgO
namespace Go.Proofs.Ytjmbgajaflcbaaa
open Go.RowKit
open Chg

/-- the address A leads to these views, two cells each, in a block below B -/
def Rv (w : World) (B : Nat) (A : Option Addr) (vs : List (Nat × Nat)) : Prop :=
  0 < vs.length → ∃ b o, A = some ⟨b, o, none⟩ ∧ b < B ∧ ∀ j v, vs[j]? = some v → w.cell? ⟨b, o + j * 2, none⟩ = some (.int .i64 (v.1 : Int)) ∧ w.cell? ⟨b, o + j * 2 + 1, none⟩ = some (.int .i64 (v.2 : Int))
def anyA (vs : List (Nat × Nat)) (i : Nat) : Bool := vs.any fun v => v.1.testBit i
def anyD (vs : List (Nat × Nat)) (i : Nat) : Bool := vs.any fun v => v.2.testBit i
def joinF (vs : List (Nat × Nat)) : Nat × Nat := (setF (anyA vs), setF (anyD vs))
theorem anyA_take (vs : List (Nat × Nat)) (k : Nat) (v : Nat × Nat) (h : vs[k]? = some v) (i : Nat) : (anyA (vs.take k) i || v.1.testBit i) = anyA (vs.take (k + 1)) i := by
  unfold anyA
  rw [List.take_add_one, h, List.any_append]
  simp
theorem anyD_take (vs : List (Nat × Nat)) (k : Nat) (v : Nat × Nat) (h : vs[k]? = some v) (i : Nat) : (anyD (vs.take k) i || v.2.testBit i) = anyD (vs.take (k + 1)) i := by
  unfold anyD
  rw [List.take_add_one, h, List.any_append]
  simp
theorem or_step (f x : Nat → Bool) (j : Nat) (v : Bool) (hv : v = (f j || x j)) (i : Nat) : (if i = j then v else f i || (decide (i < j) && x i)) = (f i || (decide (i < j + 1) && x i)) := by
  by_cases hi : i = j
  · subst hi; rw [if_pos rfl, hv]; simp
  · rw [if_neg hi, show decide (i < j) = decide (i < j + 1) from decide_eq_decide.2 (by omega)]

set_option maxHeartbeats 1000000 in
theorem join_r (A : Option Addr) (n c : Nat) (vs : List (Nat × Nat)) (hn : n = vs.length) (hl : n ≤ 140737488355328) (h64 : ∀ v ∈ vs, v.1 < 64 ∧ v.2 < 64) (B : Nat) (w : World) (hr : Rv w B A vs) (hB : B ≤ w.heap.size) :
    Calls Try.prog 17 #[.slice A n c] w fun e w' => e = .returned (vw (joinF vs).1 (joinF vs).2) ∧ Below w.heap.size w w' := by
  have HN := Lib.hid hn; clear hn
  have HR := Lib.hid hr; clear hr
  have H64 := Lib.hid h64; clear h64
  go_enter Try.func17, Try.ntmps17
  go_wp2
  go_loopw [14] (fun i wr => ∃ k : Nat, i = .int .i64 k ∧ k ≤ n ∧ Vx wr w.heap.size 0 0 ∧ Bx wr (w.heap.size + 1) (anyA (vs.take k)) ∧ Bx wr (w.heap.size + 1 + 1) (anyD (vs.take k)) ∧ Below w.heap.size w wr) (fun i _ => n - (intOf i).toNat)
  case atStart =>
    exact ⟨0, rfl, by omega, hbe (hbe (hat _ _ _ rfl)), hbe (hat _ _ _ (by simp)), hat _ _ _ (by simp), bal (bal (bal (Below.refl _ _) (Nat.le_refl _) _) (Nat.le_refl _) _) (Nat.le_refl _) _⟩
  case round =>
    obtain ⟨k, rfl, hk, hv, hx, hy, hbl⟩ := hrel
    have hlt := hy.lt
    have H1 := Lib.hid hv; have H2 := Lib.hid hx; have H3 := Lib.hid hy; have HB := Lib.hid hbl
    clear hv hx hy hbl
    by_cases h : k < n
    · obtain ⟨b, o, rfl, hbB, hcell⟩ := HR.out (by rw [← HN.out]; omega)
      have hkl : k < vs.length := by rw [← HN.out]; exact h
      have hz : vs[k]? = some vs[k] := List.getElem?_eq_getElem hkl
      have hc0 := hcell k vs[k] hz
      have hv64 := H64.out vs[k] (List.getElem_mem hkl)
      generalize vs[k] = v at hz hc0 hv64
      obtain ⟨va, vd⟩ := v
      have hca : wr.cell? ⟨b, o + k * 2, none⟩ = some (.int .i64 (va : Int)) := (HB.out.cell (by show b < _; omega)).trans hc0.1
      have hcd : wr.cell? ⟨b, o + k * 2 + 1, none⟩ = some (.int .i64 (vd : Int)) := (HB.out.cell (by show b < _; omega)).trans hc0.2
      have hva : va < 64 := hv64.1
      have hvd : vd < 64 := hv64.2
      have HA : Hid (∀ i, (anyA (vs.take k) i || va.testBit i) = anyA (vs.take (k + 1)) i) := Lib.hid (anyA_take vs k _ hz)
      have HD : Hid (∀ i, (anyD (vs.take k) i || vd.testBit i) = anyD (vs.take (k + 1)) i) := Lib.hid (anyD_take vs k _ hz)
      clear hz hc0 hcell hkl hv64
      generalize anyA (vs.take k) = f at H2 HA
      generalize anyD (vs.take k) = g at H3 HD
      go_wp2
      obtain ⟨gv, hgv⟩ : ∃ gv, gv = wr.heap.size := ⟨_, rfl⟩
      have K1 := Lib.hid (show Vx (wr.alloc (.cells #[.int .i64 (va : Int), .int .i64 (vd : Int)] 23)) gv va vd from hat _ _ _ hgv)
      have K2 := Lib.hid (show Vx (wr.alloc (.cells #[.int .i64 (va : Int), .int .i64 (vd : Int)] 23)) w.heap.size 0 0 from hbe H1.out)
      have K3 := Lib.hid (show Bx (wr.alloc (.cells #[.int .i64 (va : Int), .int .i64 (vd : Int)] 23)) (w.heap.size + 1) f from hbe H2.out)
      have K4 := Lib.hid (show Bx (wr.alloc (.cells #[.int .i64 (va : Int), .int .i64 (vd : Int)] 23)) (w.heap.size + 1 + 1) g from hbe H3.out)
      have KB := Lib.hid (bal HB.out (Nat.le_refl _) (.cells #[.int .i64 (va : Int), .int .i64 (vd : Int)] 23))
      rw [← hgv] at hlt ⊢
      clear hgv H1 H2 H3 HB hca hcd
      go_loopw [7] (fun i wq => ∃ j : Nat, i = .int .i64 j ∧ j ≤ 6 ∧ Vx wq w.heap.size 0 0 ∧ Vx wq gv va vd ∧ Bx wq (w.heap.size + 1) (fun i => f i || (decide (i < j) && va.testBit i)) ∧ Bx wq (w.heap.size + 1 + 1) (fun i => g i || (decide (i < j) && vd.testBit i)) ∧ Below w.heap.size w wq) (fun i _ => 6 - (intOf i).toNat)
      case atStart => exact ⟨0, rfl, by omega, K2.out, K1.out, K3.out.congr (fun i _ => by simp), K4.out.congr (fun i _ => by simp), KB.out⟩
      case round =>
        clear K1 K2 K3 K4 KB
        obtain ⟨j, rfl, hj, hv, hv2, hx, hy, hbl⟩ := hrel
        have hlt2 := hv2.lt
        have H1 := Lib.hid hv; have H2 := Lib.hid hv2; have H3 := Lib.hid hx; have H4 := Lib.hid hy; have HB := Lib.hid hbl
        clear hv hv2 hx hy hbl
        by_cases h6 : j < 6
        · have e0 := H2.out.c0
          have e1 := H2.out.c1
          go_wp2_with fail
          refine (has_r va vd hva hvd j (by omega) _).mono ?_
          rintro e w2 ⟨rfl, hb2⟩
          have H1 := Lib.hid (H1.out.below hb2 (by omega)); have H2 := Lib.hid (H2.out.below hb2 hlt2); have H3 := Lib.hid (H3.out.below hb2 (by omega)); have H4 := Lib.hid (H4.out.below hb2 (by omega))
          have HB := Lib.hid (HB.out.trans (hb2.mono (by omega)))
          clear hb2 e0 e1
          have x0 : w2.cell? ⟨w.heap.size + 1, j, none⟩ = some (.bool (f j)) := by have := H3.out.cell j h6; simpa using this
          have x1 := H3.out.frozen j
          have y0 : w2.cell? ⟨w.heap.size + 1 + 1, j, none⟩ = some (.bool (g j)) := by have := H4.out.cell j h6; simpa using this
          have y1 := H4.out.frozen j
          have HX : Hid (∀ v, v = (f j || va.testBit j) → ∀ i, i < 6 → (if i = j then v else f i || (decide (i < j) && va.testBit i)) = (f i || (decide (i < j + 1) && va.testBit i))) := Lib.hid (fun v hv i _ => or_step f va.testBit j v hv i)
          have HY : Hid (∀ v, v = (g j || vd.testBit j) → ∀ i, i < 6 → (if i = j then v else g i || (decide (i < j) && vd.testBit i)) = (g i || (decide (i < j + 1) && vd.testBit i))) := Lib.hid (fun v hv i _ => or_step g vd.testBit j v hv i)
          cases hp : f j <;> cases hq : g j
          all_goals
            rw [hp] at HX x0
            rw [hq] at HY y0
            go_wp2
            refine ⟨⟨j + 1, by go_num, by omega, (H1.out.other (by simp) _).other (by simp <;> omega) _, (H2.out.other (by simp <;> omega) _).other (by simp <;> omega) _, ?_, ?_, (HB.out.setCell (by simp <;> omega) _).setCell (by simp <;> omega) _⟩, by simp [intOf]; omega⟩
            · exact ((H3.out.set j h6 _).congr (HX.out _ (by simp))).other (by simp) _
            · exact ((H4.out.other (by simp) _).set j h6 _).congr (HY.out _ (by simp))
        · obtain rfl : j = 6 := by omega
          go_wp2
          refine ⟨⟨k + 1, by go_num, by omega, H1.out, H3.out.congr (fun i hi => ?_), H4.out.congr (fun i hi => ?_), HB.out⟩, by simp [intOf]; omega⟩
          · rw [← HA.out i]; simp [hi]
          · rw [← HD.out i]; simp [hi]
    · obtain rfl : k = n := by omega
      have hx : Bx wr (w.heap.size + 1) (anyA vs) := by have := H2.out; rwa [List.take_of_length_le (by rw [← HN.out]; omega)] at this
      have hy : Bx wr (w.heap.size + 1 + 1) (anyD vs) := by have := H3.out; rwa [List.take_of_length_le (by rw [← HN.out]; omega)] at this
      have HF : Hid (joinF vs = (setF (anyA vs), setF (anyD vs))) := Lib.hid rfl
      generalize anyA vs = f at hx HF
      generalize anyD vs = g at hy HF
      have x0 := hx.cell 0 (by omega); have x1 := hx.cell 1 (by omega); have x2 := hx.cell 2 (by omega); have x3 := hx.cell 3 (by omega); have x4 := hx.cell 4 (by omega); have x5 := hx.cell 5 (by omega)
      have y0 := hy.cell 0 (by omega); have y1 := hy.cell 1 (by omega); have y2 := hy.cell 2 (by omega); have y3 := hy.cell 3 (by omega); have y4 := hy.cell 4 (by omega); have y5 := hy.cell 5 (by omega)
      clear hx hy
      go_wp2_with fail
      refine (set_r f g _).mono ?_
      rintro e w2 ⟨rfl, hb2⟩
      have H1 := Lib.hid (H1.out.below hb2 (by omega))
      have HB := Lib.hid (HB.out.trans (hb2.mono (by omega)))
      have z0 := H1.out.c0
      have z1 := H1.out.c1
      have z2 := frozen_of_row w2 w.heap.size 0 _ _ H1.out
      have z3 := frozen_of_row w2 w.heap.size 1 _ _ H1.out
      clear hb2
      unfold vw
      go_wp2
      refine bodyPost_ret (results_view (g := w.heap.size) rfl rfl (H1.out.put (setF f) (setF g))) rfl ?_
      rw [HF.out]
      exact ⟨rfl, (HB.out.setCell (Nat.le_refl _) _).setCell (Nat.le_refl _) _⟩
end Go.Proofs.Ytjmbgajaflcbaaa
