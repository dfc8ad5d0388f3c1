/- The walk of CrcRest. -/
import Derived.Test.YtbfegppjaoabaaaCrcA
namespace Go.Proofs.Ytbfegppjaoabaaa.crcRest
open Go.RowKit
open Crc

theorem walk (w : World) (A : Option Addr) (n c : Nat) (bs : List UInt8) (hn : n = bs.length) (_hc : n ≤ c) (hr : Rd w w.heap.size A (bs.map B8)) (_hl : c * 1 ≤ 140737488351232) :
    Calls Try.prog 8 #[.slice A n c] w fun e w' => e = .returned (.bool true) ∧ Below w.heap.size w w' := by
  have hb : n + 100 ≤ big := by unfold big; omega
  clear _hc _hl
  have HN := Lib.hid hn; clear hn
  have HR := Lib.hid hr; clear hr
  go_enter Try.func8, Try.ntmps8
  go_wp2_with fail
  refine (alive_c _).mono ?_
  rintro e w1 ⟨rfl, hb1⟩
  have HB1 := Lib.hid hb1; clear hb1
  have hs1 := HB1.out.size
  go_wp2_with (at_builtin; refine wp_copy8_g rfl (.tmp 5) (.tmp 6) rfl w1 rfl w.heap.size A n c bs rfl HN.out (HR.out.below HB1.out) hs1 (by omega) ?_; intro A3 c3 w3 ho3 hb3)
  have HO3 := Lib.hid ho3; clear ho3
  have HB3 := Lib.hid (HB1.out.trans (hb3.mono hs1)); clear hb3
  refine (seal_c A3 n c3 bs HN.out w3.heap.size _ HO3.out.rd (Nat.le_refl _) (by omega)).mono ?_
  rintro e w4 ⟨A4, n4, c4, rfl, ho4, hb4⟩
  have HN4 := Lib.hid ho4.1
  have hn4 : n4 = n + 4 := by rw [HN4.out, seal_len, HN.out]
  have HR4 := Lib.hid ho4.rd; clear ho4
  have HB4 := Lib.hid (HB3.out.trans (hb4.mono HB3.out.size)); clear hb4
  have hs4 := HB4.out.size
  have hn4b : n4 ≤ big := by omega
  clear hn4
  go_wp2_with fail
  refine (of_one w4 w4.heap.size A4 n4 c4 _ HN4.out hn4b HR4.out (Nat.le_refl _)).mono ?_
  rw [sum_seal]
  rintro e w' ⟨rfl, rfl⟩
  go_wp2
  go_ret
  exact ⟨rfl, HB4.out.alloc hs4 _⟩
end Go.Proofs.Ytbfegppjaoabaaa.crcRest
