/- What crc.Seal and crc.sumIn answer: contracts by walks. -/
import Derived.Test.YtbfegppjaoabaaaCrcC
namespace Go.Proofs.Ytbfegppjaoabaaa
open Go.RowKit
open Crc

theorem rd_newp (w : World) (xs : List Value) : Rd (w.alloc (.cells xs.toArray 22)) (w.heap.size + 1) (some ⟨w.heap.size, 0, none⟩) xs := by
  intro _
  refine ⟨_, _, rfl, by omega, fun j u hu => ?_⟩
  rw [cell_of_row _ _ _ _ _ _ (heap_alloc_new w _)]
  simpa using hu
theorem parts_one (w : World) (B : Nat) (A : Option Addr) (n c : Nat) (bs : List UInt8) (hn : n = bs.length) (hl : n ≤ big) (hr : Rd w B A (bs.map B8)) (hB : B ≤ w.heap.size) :
    Parts (w.alloc (.cells #[.slice A n c] 22)) (w.heap.size + 1) (some ⟨w.heap.size, 0, none⟩) [⟨A, n, c, bs⟩] := by
  refine ⟨rd_newp w [.slice A n c], fun p hp => ?_⟩
  rw [List.mem_singleton] at hp
  subst hp
  exact ⟨hn, hl, (hr.below ((Below.refl _ _).alloc hB _)).more (by omega)⟩
theorem of_one (w : World) (B : Nat) (A : Option Addr) (n c : Nat) (bs : List UInt8) (hn : n = bs.length) (hl : n ≤ big) (hr : Rd w B A (bs.map B8)) (hB : B ≤ w.heap.size) :
    Calls Try.prog 14 #[.slice (some ⟨w.heap.size, 0, none⟩) 1 1] (w.alloc (.cells #[.slice A n c] 22)) fun e w' => e = .returned (.int .u32 ((sum bs).toNat : Int)) ∧ w.alloc (.cells #[.slice A n c] 22) = w' := by
  have h := of_c _ 1 1 _ rfl (by show 1 ≤ big; unfold big; omega) _ _ (parts_one w B A n c bs hn hl hr hB)
  rwa [show Part.all [⟨A, n, c, bs⟩] = bs from by simp [Part.all]] at h

theorem of_at (w : World) (g : Nat) (hg : g = w.heap.size) (B : Nat) (A : Option Addr) (n c : Nat) (bs : List UInt8) (hn : n = bs.length) (hl : n ≤ big) (hr : Rd w B A (bs.map B8)) (hB : B ≤ w.heap.size) :
    Calls Try.prog 14 #[.slice (some ⟨g, 0, none⟩) 1 1] (w.alloc (.cells #[.slice A n c] 22)) fun e w' => e = .returned (.int .u32 ((sum bs).toNat : Int)) ∧ w.alloc (.cells #[.slice A n c] 22) = w' := by
  subst hg
  exact of_one w B A n c bs hn hl hr hB

theorem byte0_le (s : Nat) : (s : Int) % 256 = ((UInt8.ofNat (s % 256)).toNat : Int) := by
  rw [UInt8.toNat_ofNat']
  omega
theorem byte_le (s d : Nat) : (s : Int) / (d : Int) % 256 = ((UInt8.ofNat (s / d % 256)).toNat : Int) := by
  rw [UInt8.toNat_ofNat', Nat.mod_mod]
  rfl
theorem byte3_le (s : Nat) (h : s < 2 ^ 32) : (s : Int) / 16777216 = ((UInt8.ofNat (s / 16777216 % 256)).toNat : Int) := by
  rw [UInt8.toNat_ofNat', Nat.mod_mod]
  omega

theorem seal_c (A : Option Addr) (n c : Nat) (bs : List UInt8) (hn : n = bs.length) (B : Nat) (w : World) (hr : Rd w B A (bs.map B8)) (hB : B ≤ w.heap.size) (hl : n + 4 ≤ big) :
    Calls Try.prog 16 #[.slice A n c] w (RetOwn w w.heap.size (seal_ bs)) := by
  have HN := Lib.hid hn; clear hn
  have HR := Lib.hid hr; clear hr
  go_enter Try.func16, Try.ntmps16
  go_wp2_with (go_at_call 14; refine (of_one w B A n c bs HN.out (by omega) HR.out hB).mono ?_; rintro e w' ⟨rfl, rfl⟩)
  have hlt := (sum bs).isLt
  obtain ⟨s, hs⟩ : ∃ s, s = (sum bs).toNat := ⟨_, rfl⟩
  rw [← hs] at hlt ⊢
  go_wp2_with fail
  refine (clone_c A n c bs HN.out B _ (HR.out.below ((Below.refl _ _).alloc hB _)) (by simp; omega) (by omega)).mono ?_
  rintro e w1 ⟨A1, n1, c1, rfl, ho1, hb1⟩
  have hb1' : Below w.heap.size w w1 := ((Below.refl _ _).alloc (Nat.le_refl _) _).trans (hb1.mono (by simp))
  have HO1 := Lib.hid (ho1.base (show w.heap.size ≤ _ by simp)); clear ho1
  have HB1 := Lib.hid hb1'; clear hb1' hb1
  have HS := Lib.hid hs; clear hs
  have hn1 : n1 = n := by rw [HO1.out.1, HN.out]
  subst hn1
  go_wp2
  go_loopw [4, 11] (fun v i wr => ∃ (A' : Option Addr) (n' c' k : Nat), v = .slice A' n' c' ∧ i = .int .i64 k ∧ k ≤ 4 ∧ n' = n1 + k ∧ Own wr w.heap.size A' n' c' (bs ++ (le4 s).take k) ∧ Below w.heap.size w wr)
    (fun _ i _ => 4 - (intOf i).toNat)
  case atStart => exact ⟨A1, n1, c1, 0, rfl, rfl, by omega, rfl, by simpa using HO1.out, HB1.out⟩
  case round =>
    obtain ⟨A', n', c', k, rfl, rfl, hk, hn', ho, hb⟩ := hrel
    have HO' := Lib.hid ho; clear ho
    have hbw := hb.size
    have HB' := Lib.hid hb; clear hb
    have hl' : k < 4 → n' + 1 ≤ big := by omega
    have HN' := Lib.hid hn'; clear hn'
    obtain rfl | rfl | rfl | rfl | rfl : k = 0 ∨ k = 1 ∨ k = 2 ∨ k = 3 ∨ k = 4 := by omega
    · have hl2 := hl' (by omega); clear hl'
      go_wp2_with (at_builtin; refine wp_app8 rfl (.tmp 14) (.tmp 20) rfl w.heap.size A' n' c' _ rfl (HO'.out.alloc _) _ _ 1 1 [UInt8.ofNat (s % 256)] rfl rfl (rd_one wr _ _ (byte0_le s)) hl2 (by simp; omega) ?_; intro A2 c2 w2 ho2 hb2)
      have e2 := HN'.out
      rw [List.append_assoc] at ho2
      exact ⟨⟨A2, n' + 1, c2, 1, rfl, rfl, by omega, by omega, ho2, (HB'.out.alloc hbw _).trans hb2⟩, by simp [intOf]⟩
    · have hl2 := hl' (by omega); clear hl'
      go_wp2_with (at_builtin; refine wp_app8 rfl (.tmp 14) (.tmp 20) rfl w.heap.size A' n' c' _ rfl (HO'.out.alloc _) _ _ 1 1 [UInt8.ofNat (s / 256 % 256)] rfl rfl (rd_one wr _ _ (byte_le s 256)) hl2 (by simp; omega) ?_; intro A2 c2 w2 ho2 hb2)
      have e2 := HN'.out
      rw [List.append_assoc] at ho2
      exact ⟨⟨A2, n' + 1, c2, 2, rfl, rfl, by omega, by omega, ho2, (HB'.out.alloc hbw _).trans hb2⟩, by simp [intOf]⟩
    · have hl2 := hl' (by omega); clear hl'
      go_wp2_with (at_builtin; refine wp_app8 rfl (.tmp 14) (.tmp 20) rfl w.heap.size A' n' c' _ rfl (HO'.out.alloc _) _ _ 1 1 [UInt8.ofNat (s / 65536 % 256)] rfl rfl (rd_one wr _ _ (byte_le s 65536)) hl2 (by simp; omega) ?_; intro A2 c2 w2 ho2 hb2)
      have e2 := HN'.out
      rw [List.append_assoc] at ho2
      exact ⟨⟨A2, n' + 1, c2, 3, rfl, rfl, by omega, by omega, ho2, (HB'.out.alloc hbw _).trans hb2⟩, by simp [intOf]⟩
    · have hl2 := hl' (by omega); clear hl'
      go_wp2_with (at_builtin; refine wp_app8 rfl (.tmp 14) (.tmp 20) rfl w.heap.size A' n' c' _ rfl (HO'.out.alloc _) _ _ 1 1 [UInt8.ofNat (s / 16777216 % 256)] rfl rfl (rd_one wr _ _ (byte3_le s hlt)) hl2 (by simp; omega) ?_; intro A2 c2 w2 ho2 hb2)
      have e2 := HN'.out
      rw [List.append_assoc] at ho2
      exact ⟨⟨A2, n' + 1, c2, 4, rfl, rfl, by omega, by omega, ho2, (HB'.out.alloc hbw _).trans hb2⟩, by simp [intOf]⟩
    · go_wp2
      go_ret
      have o := HO'.out
      rw [List.take_of_length_le (by rw [le4_len]; omega), HS.out] at o
      exact ⟨A', _, c', rfl, o, HB'.out⟩
end Go.Proofs.Ytbfegppjaoabaaa
