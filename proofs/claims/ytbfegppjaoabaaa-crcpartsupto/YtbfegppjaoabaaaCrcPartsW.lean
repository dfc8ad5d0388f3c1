/- The walk of CrcParts. -/
import Derived.Test.YtbfegppjaoabaaaCrcA
namespace Go.Proofs.Ytbfegppjaoabaaa.crcParts
open Go.RowKit
open Crc

theorem all_le (ps : List Part) (k : Nat) : (Part.all (ps.take k)).length ≤ (Part.all ps).length := by
  have h : Part.all ps = Part.all (ps.take k) ++ Part.all (ps.drop k) := by
    unfold Part.all
    rw [← List.flatMap_append, List.take_append_drop]
  rw [h, List.length_append]
  omega

set_option maxRecDepth 100000 in
theorem walk (w : World) (A : Option Addr) (n c : Nat) (ps : List Part) (hn : n = ps.length) (hr : Rd w w.heap.size A (ps.map Part.v)) (hp : ∀ x ∈ ps, x.n = x.bs.length ∧ Rd w w.heap.size x.a (x.bs.map B8)) (hl : ps.length + (Part.all ps).length ≤ 1048576) :
    Calls Try.prog 7 #[.slice A n c] w fun e w' => e = .returned (.bool true) ∧ Below w.heap.size w w' := by
  have hbig : 4000000 ≤ big := by unfold big; omega
  have hn20 : n ≤ 1048576 := by omega
  have hall : (Part.all ps).length ≤ 1048576 := by omega
  have HAL := Lib.hid hall; clear hall hl
  have HN := Lib.hid hn; clear hn
  have HR := Lib.hid hr; clear hr
  have HP := Lib.hid hp; clear hp
  have HPB : Hid (∀ x ∈ ps, x.n ≤ 1048576) := Lib.hid (by
    intro x hx
    obtain ⟨k, hk, rfl⟩ := List.mem_iff_getElem.1 hx
    have h1 := all_take ps k _ (List.getElem?_eq_getElem hk)
    have h2 := all_le ps (k + 1)
    rw [h1, List.length_append, ← (HP.out _ (List.getElem_mem hk)).1] at h2
    have := HAL.out
    omega)
  go_enter Try.func7, Try.ntmps7
  go_wp2_with fail
  refine (alive_c _).mono ?_
  rintro e w1 ⟨rfl, hb1⟩
  have HB1 := Lib.hid hb1; clear hb1
  have hs1 := HB1.out.size
  go_wp2
  go_loopw [3, 13] (fun v i wr => ∃ (A' : Option Addr) (n' c' k : Nat), v = .slice A' n' c' ∧ i = .int .i64 k ∧ k ≤ n ∧ Own wr w.heap.size A' n' c' (Part.all (ps.take k)) ∧ Below w.heap.size w wr)
    (fun _ i _ => n - (intOf i).toNat)
  case atStart => exact ⟨_, 0, 0, 0, rfl, rfl, by omega, own_new w1 _ [] hs1 (by simp), HB1.out.alloc hs1 _⟩
  case round =>
    obtain ⟨A', n', c', k, rfl, rfl, hk, ho, hb⟩ := hrel
    have hn' : n' ≤ 1048576 := by
      have h1 := ho.1
      have h2 := all_le ps k
      have := HAL.out
      omega
    have HO := Lib.hid ho; clear ho
    have hbw := hb.size
    have HB := Lib.hid hb; clear hb
    by_cases h : k < n
    · obtain ⟨b, o, rfl, hbB, hcell⟩ := HR.out (by rw [List.length_map, ← HN.out]; omega)
      have hkl : k < ps.length := by rw [← HN.out]; exact h
      have hx : ps[k]? = some ps[k] := List.getElem?_eq_getElem hkl
      have hc0 := hcell k ps[k].v (by simp [hkl])
      have hpk := HP.out ps[k] (List.getElem_mem hkl)
      have hpb := HPB.out ps[k] (List.getElem_mem hkl)
      generalize ps[k] = p at hx hc0 hpk hpb
      obtain ⟨pa, pn, pc, pbs⟩ := p
      have hcx : wr.cell? ⟨b, o + k, none⟩ = some (.slice pa pn pc) := (HB.out.cell hbB).trans hc0
      have hpb' : pn ≤ 1048576 := hpb
      have HX := Lib.hid hx
      have HPK := Lib.hid hpk
      clear hx hc0 hcell hkl hpk hpb
      go_wp2_with (at_builtin; refine wp_app8 rfl (.tmp 17) (.tmp 18) rfl w.heap.size A' n' c' _ rfl HO.out w.heap.size pa pn pc pbs rfl HPK.out.1 (HPK.out.2.below HB.out) (by omega) hbw ?_; intro A2 c2 w2 ho2 hb2)
      go_roundw
      case rel =>
        refine ⟨A2, _, c2, k + 1, rfl, by go_num, by omega, ?_, HB.out.trans hb2⟩
        rw [all_take _ _ _ HX.out]
        exact ho2
      case measure => simp [intOf]; omega
    · obtain rfl : k = n := by omega
      have ho := HO.out
      rw [List.take_of_length_le (by rw [← HN.out]; omega)] at ho
      have HO2 := Lib.hid ho
      clear HO ho
      by_cases h5 : (5000 : Int) < (n' : Int)
      · go_wp2
        go_ret
        exact ⟨rfl, HB.out⟩
      go_wp2_with fail
      have hparts : Parts wr w.heap.size A ps := ⟨HR.out.below HB.out, fun p hp => ⟨(HP.out p hp).1, by have := HPB.out p hp; omega, (HP.out p hp).2.below HB.out⟩⟩
      refine (of_c A k c ps HN.out (by omega) w.heap.size _ hparts).mono ?_
      rintro e w' ⟨rfl, rfl⟩
      clear hparts
      go_wp2_with fail
      refine (of_one wr wr.heap.size A' n' c' _ HO2.out.1 (by omega) HO2.out.rd (Nat.le_refl _)).mono ?_
      rintro e w' ⟨rfl, rfl⟩
      generalize hw3 : wr.alloc (.cells #[.slice A' n' c'] 22) = w3
      have HB3 : Hid (Below wr.heap.size wr w3) := Lib.hid (by rw [← hw3]; exact (Below.refl _ _).alloc (Nat.le_refl _) _)
      clear hw3
      have hs3 := HB3.out.size
      go_wp2_with fail
      refine (seal_c A' n' c' _ HO2.out.1 wr.heap.size _ (HO2.out.rd.below HB3.out) hs3 (by omega)).mono ?_
      rintro e w4 ⟨A4, n4, c4, rfl, ho4, hb4⟩
      have hn4 : n4 ≤ big := by rw [ho4.1, seal_len, ← HO2.out.1]; omega
      have HO4 := Lib.hid ho4; clear ho4
      have HB4 := Lib.hid (HB3.out.trans (hb4.mono hs3)); clear hb4
      have hs4 := HB4.out.size
      go_wp2_with fail
      refine (open_c A4 n4 c4 _ HO4.out.1 HO4.out.cap w4.heap.size _ HO4.out.rd (Nat.le_refl _) hn4).mono ?_
      rw [open_seal]
      rintro e w5 ⟨A5, n5, c5, rfl, hn5, _, hr5, hb5⟩
      have HB5 := Lib.hid (HB4.out.trans (hb5.mono hs4)); clear hb5
      have hcv5 := str8' c5 hr5 hn5
      have hoE : oE (some (Part.all ps)) = 0 := rfl
      have hoB : oB (some (Part.all ps)) = Part.all ps := rfl
      rw [hoB] at hcv5
      have hcv := str8' c' (HO2.out.rd.below HB5.out) HO2.out.1
      clear hr5 hn5 hoB
      go_wp2
      go_ret
      exact ⟨rfl, HB.out.trans (HB5.out.mono hbw)⟩
end Go.Proofs.Ytbfegppjaoabaaa.crcParts
