/- Words for memory of layer 4: slices of int and of views that a call makes, views in blocks of their own. -/
import Derived.Test.YtofjdfnoibfdfaaChgJ
import Derived.Test.YtofjdfnoibfdfaaRowI
namespace Go.Proofs.Ytofjdfnoibfdfaa
open Go.RowKit
open Chg

theorem rdI_any (w : World) (zs : List Int) : Rd (w.alloc (.cells (zs.map (Value.int .i64)).toArray 3)) (w.heap.size + 1) (some ⟨w.heap.size, 0, none⟩) (zs.map (Value.int .i64)) := by
  intro _
  refine ⟨_, _, rfl, by omega, fun j u hu => ?_⟩
  rw [cell_of_row _ _ _ _ _ _ (heap_alloc_new w _)]
  simpa using hu
theorem rdI_at (w : World) (zs : List Int) (g : Nat) (hg : g = w.heap.size) : Rd (w.alloc (.cells (zs.map (Value.int .i64)).toArray 3)) (w.heap.size + 1) (some ⟨g, 0, none⟩) (zs.map (Value.int .i64)) := by
  subst hg
  exact rdI_any w zs
/-- two cells of a view of any numbers, in a block of its own -/
def Vi (w : World) (g : Nat) (a d : Int) : Prop := w.heap[g]? = some (.cells #[.int .i64 a, .int .i64 d] 25)
theorem Vi.c0 {w : World} {g : Nat} {a d : Int} (h : Vi w g a d) : w.cell? ⟨g, 0, none⟩ = some (.int .i64 a) := by
  rw [cell_of_row _ _ _ _ _ _ h]; rfl
theorem Vi.c1 {w : World} {g : Nat} {a d : Int} (h : Vi w g a d) : w.cell? ⟨g, 1, none⟩ = some (.int .i64 d) := by
  rw [cell_of_row _ _ _ _ _ _ h]; rfl
theorem Vi.lt {w : World} {g : Nat} {a d : Int} (h : Vi w g a d) : g < w.heap.size := by
  rcases Nat.lt_or_ge g w.heap.size with h' | h'
  · exact h'
  · unfold Vi at h; rw [Array.getElem?_eq_none h'] at h; cases h
theorem Vi.below {w w' : World} {g : Nat} {a d : Int} (h : Vi w g a d) (hb : Below w.heap.size w w') : Vi w' g a d := (hb.block g h.lt).trans h
theorem right_nat {a d : Int} (h : rightB a d = true) : ∃ m n : Nat, a = (m : Int) ∧ d = (n : Int) ∧ m < 64 ∧ n < 64 := by
  have := of_decide_eq_true h
  exact ⟨a.toNat, d.toNat, by omega, by omega, by omega, by omega⟩
def flat (vs : List (Nat × Nat)) : List Value := vs.flatMap fun v => [.int .i64 (v.1 : Int), .int .i64 (v.2 : Int)]
theorem flat_at : ∀ (vs : List (Nat × Nat)) (j : Nat) (v : Nat × Nat), vs[j]? = some v → (flat vs)[j * 2]? = some (.int .i64 (v.1 : Int)) ∧ (flat vs)[j * 2 + 1]? = some (.int .i64 (v.2 : Int))
  | [], _, _, h => by simp at h
  | x :: l, 0, v, h => by
    simp only [List.getElem?_cons_zero, Option.some.injEq] at h
    subst h
    exact ⟨rfl, rfl⟩
  | x :: l, j + 1, v, h => by
    have ih := flat_at l j v (by simpa using h)
    have e : flat (x :: l) = .int .i64 (x.1 : Int) :: .int .i64 (x.2 : Int) :: flat l := rfl
    rw [e, show (j + 1) * 2 = j * 2 + 1 + 1 by omega, show j * 2 + 1 + 1 + 1 = (j * 2 + 1) + 1 + 1 by omega]
    simpa using ih
theorem rv_new (w : World) (vs : List (Nat × Nat)) : Rv (w.alloc (.cells (flat vs).toArray 25)) (w.heap.size + 1) (some ⟨w.heap.size, 0, none⟩) vs := by
  intro _
  refine ⟨_, _, rfl, by omega, fun j v hv => ?_⟩
  have h := flat_at vs j v hv
  rw [cell_of_row _ _ _ _ _ _ (heap_alloc_new w _), cell_of_row _ _ _ _ _ _ (heap_alloc_new w _)]
  simpa using h
theorem Rv.below {w w' : World} {B : Nat} {A : Option Addr} {vs : List (Nat × Nat)} (h : Rv w B A vs) (hb : Below B w w') : Rv w' B A vs := by
  intro hn
  obtain ⟨b, o, e, hB, hc⟩ := h hn
  exact ⟨b, o, e, hB, fun j v hv => ⟨(hb.cell (p := ⟨b, o + j * 2, none⟩) hB).trans (hc j v hv).1, (hb.cell (p := ⟨b, o + j * 2 + 1, none⟩) hB).trans (hc j v hv).2⟩⟩
theorem Rv.more {w : World} {B B' : Nat} {A : Option Addr} {vs : List (Nat × Nat)} (h : Rv w B A vs) (hB : B ≤ B') : Rv w B' A vs := by
  intro hn
  obtain ⟨b, o, e, hb, hc⟩ := h hn
  exact ⟨b, o, e, by omega, hc⟩
theorem join2 (a d b c : Nat) (ha : a < 64) (hd : d < 64) (hb : b < 64) (hc : c < 64) : joinF [(a, d), (b, c)] = (a ||| b, d ||| c) := by
  unfold joinF
  rw [← setF_or a b ha hb, ← setF_or d c hd hc]
  congr 1
  · exact setF_congr (fun k _ => by simp [anyA])
  · exact setF_congr (fun k _ => by simp [anyD])
theorem join3 (a d b c f g : Nat) (ha : a < 64) (hd : d < 64) (hb : b < 64) (hc : c < 64) (hf : f < 64) (hg : g < 64) : joinF [(a, d), (b, c), (f, g)] = (a ||| b ||| f, d ||| c ||| g) := by
  unfold joinF
  rw [← setF_or (a ||| b) f (or_lt ha hb) hf, ← setF_or (d ||| c) g (or_lt hd hc) hg]
  congr 1
  · exact setF_congr (fun k _ => by simp [anyA, Bool.or_assoc])
  · exact setF_congr (fun k _ => by simp [anyD, Bool.or_assoc])
end Go.Proofs.Ytofjdfnoibfdfaa
