/- What the document's Within and Named of layer 4 answer: contracts by walks. -/
import Derived.Test.YtjmbgajaflcbaaaChgM
namespace Go.Proofs.Ytjmbgajaflcbaaa
open Go.RowKit
open Chg

def withinV (a d b c : Nat) : Bool := within a b && within d c

theorem within_r (a d : Nat) (ha : a < 64) (hd : d < 64) (b c : Nat) (hb : b < 64) (hc : c < 64) (w : World) : Calls Try.prog 21 #[vw a d, vw b c] w fun e w' => e = .returned (.bool (withinV a d b c)) ∧ Below w.heap.size w w' := by
  have heq := eq_view
  unfold vw
  go_enter Try.func21, Try.ntmps21
  go_wp2_with fail
  refine (minus_r a d ha hd b c hb hc _).mono ?_
  rintro e w2 ⟨rfl, hb2⟩
  have HB2 := Lib.hid ((bal (bal (Below.refl _ _) (Nat.le_refl _) _) (Nat.le_refl _) _).trans (hb2.mono (by simp <;> omega))); clear hb2
  unfold vw
  go_wp2
  go_ret
  refine ⟨ret_bool ?_, HB2.out⟩
  unfold withinV
  rw [← minus_zero a b ha hb, ← minus_zero d c hd hc]
  have h : ∀ n : Nat, ((n : Int) == 0) = (n == 0) := fun n => by rw [Bool.eq_iff_iff]; simp
  rw [h, h]
/-- the set of a name -/
def namedF (n : Int) : Option (Nat × Nat) := if 0 ≤ n ∧ n < 4096 then some (n.toNat / 64, n.toNat % 64) else none
/-- a set and the error's number, whichever way it ends -/
def gv (o : Option (Nat × Nat)) : Nat × Nat := o.getD (0, 0)
def ge (o : Option (Nat × Nat)) : Int := if o.isSome then 0 else 41
def RetV (w : World) (o : Option (Nat × Nat)) (e : Ending) (w' : World) : Prop := e = .returned (.tuple #[vw (gv o).1 (gv o).2, .int .i64 (ge o)]) ∧ Below w.heap.size w w'

theorem named_r (n : Int) (hn : -9223372036854775808 ≤ n ∧ n ≤ 9223372036854775807) (w : World) : Calls Try.prog 14 #[.int .i64 n] w (RetV w (namedF n)) := by
  go_enter Try.func14, Try.ntmps14
  go_wp2
  go_loop [4] (fun i => ∃ k : Nat, i = .int .i64 k ∧ k ≤ 64 ∧ (0 ≤ n → 64 * (k : Int) ≤ n)) (fun i => 64 - (intOf i).toNat)
  case atStart => exact ⟨0, rfl, by omega, fun h => by omega⟩
  case round =>
    obtain ⟨k, rfl, hk, hlow⟩ := hrel
    by_cases h : k < 64
    · by_cases h1 : 64 * (k : Int) ≤ n
      · by_cases h2 : n ≤ 64 * (k : Int) + 63
        · have HF : Hid (namedF n = some (k, (n - 64 * (k : Int)).toNat)) := Lib.hid (by
            unfold namedF
            rw [if_pos (by omega)]
            congr 2 <;> omega)
          clear hlow
          go_wp2
          refine bodyPost_ret (results_view2 (g := w.heap.size) (a := k) (d := (n - 64 * (k : Int)).toNat) rfl rfl rfl ?_) rfl ?_
          · have e : ((n - 64 * (k : Int)).toNat : Int) = n - 64 * (k : Int) := by omega
            unfold Vx
            rw [e]
            exact heap_alloc_new w _
          · unfold RetV
            rw [HF.out]
            exact ⟨rfl, bal (Below.refl _ _) (Nat.le_refl _) _⟩
        · clear hlow
          go_wp2
          exact ⟨⟨k + 1, by go_num, by omega, fun _ => by omega⟩, by simp [intOf]; omega⟩
      · have hneg : n < 0 := by omega
        clear hlow
        go_wp2
        exact ⟨⟨k + 1, by go_num, by omega, fun _ => by omega⟩, by simp [intOf]; omega⟩
    · have HF : Hid (namedF n = none) := Lib.hid (by
        unfold namedF
        rw [if_neg (by omega)])
      clear hlow
      go_wp2
      refine bodyPost_ret (results_view2 (g := w.heap.size) (a := 0) (d := 0) rfl rfl rfl (heap_alloc_new w _)) rfl ?_
      unfold RetV
      rw [HF.out]
      exact ⟨rfl, bal (Below.refl _ _) (Nat.le_refl _) _⟩
end Go.Proofs.Ytjmbgajaflcbaaa
