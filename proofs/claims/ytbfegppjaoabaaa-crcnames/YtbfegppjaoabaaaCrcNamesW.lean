/- The walk of CrcNames. -/
import Derived.Test.YtbfegppjaoabaaaCrcA
namespace Go.Proofs.Ytbfegppjaoabaaa.crcNames
open Go.RowKit
open Crc

theorem burst_two : burstF [0, 0] 7 3 = [128, 1] := by decide +kernel

theorem walk (w : World) : Calls Try.prog 3 #[] w fun e w' => e = .returned (.bool true) ∧ Below w.heap.size w w' := by
  have hb : 100 ≤ big := by unfold big; omega
  go_enter Try.func3, Try.ntmps3
  go_wp2_with fail
  refine (open_c none 0 0 [] rfl (Nat.le_refl _) 0 _ Rd.nil (Nat.zero_le _) (by show 0 ≤ big; omega)).mono ?_
  rw [show openF [] = none from rfl]
  rintro e w1 ⟨A1, n1, c1, rfl, _, _, _, hb1⟩
  have HB1 := Lib.hid hb1; clear hb1
  have hoE : oE none = 31 := rfl
  go_wp2_with fail
  refine (alive_c _).mono ?_
  rintro e w2 ⟨rfl, hb2⟩
  have HB2 := Lib.hid (HB1.out.trans (hb2.mono HB1.out.size)); clear hb2
  have hs2 := HB2.out.size
  go_wp2_with fail
  refine (burst_c _ _ _ [0, 0] rfl 7 (by omega) (by omega) 3 (by omega) (w2.heap.size + 1) _ (rd_new w2 ([0, 0].map B8)) (by simp) (by show 2 ≤ big; omega)).mono ?_
  rw [burst_two]
  rintro e w3 ⟨A3, n3, c3, rfl, ho3, hb3⟩
  have hcv := str8' c3 ho3.rd ho3.1
  have HB3 := Lib.hid ((HB2.out.alloc hs2 _).trans (hb3.mono (by simp; omega))); clear hb3 ho3
  have hsq : ((str [128, 1]).toList == [128, 1]) = true := by rw [str_toList]; decide
  go_wp2
  go_ret
  exact ⟨rfl, HB3.out⟩
end Go.Proofs.Ytbfegppjaoabaaa.crcNames
