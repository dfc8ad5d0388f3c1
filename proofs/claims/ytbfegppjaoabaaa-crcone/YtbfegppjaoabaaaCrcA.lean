/- What crcAlive answers: true. -/
import Derived.Test.YtbfegppjaoabaaaCrcF
import Derived.Test.YtbfegppjaoabaaaCrcT
namespace Go.Proofs.Ytbfegppjaoabaaa
open Go.RowKit
open Crc

theorem digits_sum : sum [49, 50, 51, 52, 53, 54, 55, 56, 57] = 0xCBF43926#32 := by decide +kernel
theorem nothing_seal : seal_ [] = [0, 0, 0, 0] := by decide +kernel

theorem alive_c (w : World) : Calls Try.prog 11 #[] w fun e w' => e = .returned (.bool true) ∧ Below w.heap.size w w' := by
  have hb : 100 ≤ big := by unfold big; omega
  have kc := text_const
  go_enter Try.func11, Try.ntmps11
  go_wp2_with fail
  refine (seal_c _ _ _ [120] rfl (w.heap.size + 1) _ (rd_mark w ([120].map B8) _) (by simp) (by show 1 + 4 ≤ big; omega)).mono ?_
  rintro e w1 ⟨A1, n1, c1, rfl, ho1, hb1⟩
  have hb1' : Below w.heap.size w w1 := ((Below.refl _ _).alloc (Nat.le_refl _) _).trans (hb1.mono (by simp))
  have hn1 : n1 = 5 := ho1.1
  subst hn1
  have HO1 := Lib.hid ho1; clear ho1
  have HB1 := Lib.hid hb1'; clear hb1 hb1'
  go_wp2_with fail
  refine (open_c _ _ _ (seal_ [120]) HO1.out.1 HO1.out.cap w1.heap.size _ HO1.out.rd (Nat.le_refl _) (by show 5 ≤ big; omega)).mono ?_
  rw [open_seal]
  rintro e w2 ⟨A2, n2, c2, rfl, hn2, _, hr2, hb2⟩
  have HR2 := Lib.hid hr2; clear hr2
  have HN2 := Lib.hid hn2; clear hn2
  have HB2 := Lib.hid (HB1.out.trans (hb2.mono HB1.out.size)); clear hb2
  have hs2 := HB2.out.size
  have hoE : oE (some [120]) = 0 := rfl
  go_wp2_with fail
  obtain ⟨w3, hw3⟩ : ∃ w3, w3 = w2.alloc (.cells ([49, 50, 51, 52, 53, 54, 55, 56, 57].map B8).toArray 5 (9, 10)) := ⟨_, rfl⟩
  have hr3 : Rd w3 (w2.heap.size + 1) (some ⟨w2.heap.size, 0, none⟩) ([49, 50, 51, 52, 53, 54, 55, 56, 57].map B8) := by rw [hw3]; exact rd_mark w2 _ _
  have hs3 : w2.heap.size + 1 = w3.heap.size := by rw [hw3]; simp
  have hb3 : Below w2.heap.size w2 w3 := by rw [hw3]; exact (Below.refl _ _).alloc (Nat.le_refl _) _
  refine Eq.mp (congrArg (fun W => Calls Try.prog 14 #[.slice (some ⟨w2.heap.size + 1, 0, none⟩) 1 1] (W.alloc (.cells #[.slice (some ⟨w2.heap.size, 0, none⟩) 9 9] 22)) _) hw3) ?_
  clear hw3
  refine (of_at w3 _ hs3 _ _ 9 9 _ rfl (by show 9 ≤ big; omega) hr3 (by omega)).mono ?_
  rintro e w' ⟨rfl, rfl⟩
  rw [digits_sum]
  generalize hw4 : w3.alloc (.cells #[.slice (some ⟨w2.heap.size, 0, none⟩) 9 9] 22) = w4
  have hb4 : Below w2.heap.size w2 w4 := by rw [← hw4]; exact hb3.alloc (by omega) _
  clear hw4 hr3 hb3 hs3
  have hcv := str8' c2 ((HR2.out.below hb4).more hb4.size) HN2.out
  have HB4 := Lib.hid (HB2.out.trans (hb4.mono hs2)); clear hb4
  have hsq : ((str (oB (some [120]))).toList == [120]) = true := by rw [str_toList]; decide
  go_wp2_with fail
  refine (seal_c none 0 0 [] rfl 0 _ Rd.nil (Nat.zero_le _) (by show 0 + 4 ≤ big; omega)).mono ?_
  rw [nothing_seal]
  rintro e w5 ⟨A5, n5, c5, rfl, ho5, hb5⟩
  have hcv5 := str8' c5 ho5.rd ho5.1
  have HB5 := Lib.hid (HB4.out.trans (hb5.mono HB4.out.size)); clear hb5 ho5 hcv
  have hsq5 : ((str [0, 0, 0, 0]).toList == [0, 0, 0, 0]) = true := by rw [str_toList]; decide
  go_wp2
  go_ret
  exact ⟨rfl, HB5.out⟩
end Go.Proofs.Ytbfegppjaoabaaa
