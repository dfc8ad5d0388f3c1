/- What crc.sumIn answers: a contract by a walk. -/
import Derived.Test.YtbfegppjaoabaaaCrcD
namespace Go.Proofs.Ytbfegppjaoabaaa
open Go.RowKit
open Crc

theorem or_v (s e : Nat) (hs : s < 2 ^ 32) : Go.bits .or .u32 ((s % 2 ^ e : Nat) : Int) ((s / 2 ^ e % 256 * 2 ^ e : Nat) : Int) = ((s % (2 ^ e * 256) : Nat) : Int) := by
  have h0 : 0 < 2 ^ e := Nat.pow_pos (by omega)
  have h1 : s % 2 ^ e < 2 ^ e := Nat.mod_lt _ h0
  have h2 : s / 2 ^ e % 256 * 2 ^ e ≤ s := Nat.le_trans (Nat.mul_le_mul_right _ (Nat.mod_le _ _)) (Nat.div_mul_le_self s _)
  rw [u32_or_nat _ _ (Nat.lt_of_le_of_lt (Nat.mod_le _ _) hs) (by omega), Nat.mul_comm (s / 2 ^ e % 256), Nat.or_comm, ← Nat.two_pow_add_eq_or_of_lt h1, Nat.mod_mul, Nat.add_comm]

theorem sumin_c (A : Option Addr) (c s : Nat) (hs : s < 2 ^ 32) (B : Nat) (w : World) (hr : Rd w B A ((le4 s).map B8)) :
    Calls Try.prog 19 #[.slice A 4 c] w fun e w' => e = .returned (.int .u32 (s : Int)) ∧ w = w' := by
  obtain ⟨b, o, rfl, _, hcell⟩ := hr (by simp [le4_len])
  have hc0 : w.cell? ⟨b, o, none⟩ = some (.int .u8 (((UInt8.ofNat (s % 256)).toNat : Nat) : Int)) := hcell 0 _ rfl
  have hc1 : w.cell? ⟨b, o + 1, none⟩ = some (.int .u8 (((UInt8.ofNat (s / 256 % 256)).toNat : Nat) : Int)) := hcell 1 _ rfl
  have hc2 : w.cell? ⟨b, o + 2, none⟩ = some (.int .u8 (((UInt8.ofNat (s / 65536 % 256)).toNat : Nat) : Int)) := hcell 2 _ rfl
  have hc3 : w.cell? ⟨b, o + 3, none⟩ = some (.int .u8 (((UInt8.ofNat (s / 16777216 % 256)).toNat : Nat) : Int)) := hcell 3 _ rfl
  rw [UInt8.toNat_ofNat', Nat.mod_mod] at hc0 hc1 hc2 hc3
  clear hr hcell
  go_enter Try.func19, Try.ntmps19
  go_wp2
  go_loop [3, 8] (fun v i => ∃ (m k : Nat), v = .int .u32 m ∧ i = .int .i64 k ∧ k ≤ 4 ∧ m = s % 256 ^ k) (fun _ i => 4 - (intOf i).toNat)
  case atStart => exact ⟨0, 0, rfl, rfl, by omega, by simp [Nat.mod_one]⟩
  case round =>
    obtain ⟨m, k, rfl, rfl, hk, hm⟩ := hrel
    have HM := Lib.hid hm; clear hm
    obtain rfl | rfl | rfl | rfl | rfl : k = 0 ∨ k = 1 ∨ k = 2 ∨ k = 3 ∨ k = 4 := by omega
    · go_wp2
      refine ⟨⟨s % 256 ^ 1, 1, ?_, rfl, by omega, rfl⟩, by simp [intOf]⟩
      have h := or_v s 0 hs
      rw [HM.out]
      simp only [Nat.pow_zero, Nat.mod_one, Nat.div_one, Nat.mul_one, Nat.one_mul] at h ⊢
      exact congrArg (Value.int IntKind.u32) h
    · go_wp2
      refine ⟨⟨s % 256 ^ 2, 2, ?_, rfl, by omega, rfl⟩, by simp [intOf]⟩
      have h := or_v s 8 hs
      rw [HM.out]
      exact congrArg (Value.int IntKind.u32) h
    · go_wp2
      refine ⟨⟨s % 256 ^ 3, 3, ?_, rfl, by omega, rfl⟩, by simp [intOf]⟩
      have h := or_v s 16 hs
      rw [HM.out]
      exact congrArg (Value.int IntKind.u32) h
    · go_wp2
      refine ⟨⟨s % 256 ^ 4, 4, ?_, rfl, by omega, rfl⟩, by simp [intOf]⟩
      have h := or_v s 24 hs
      rw [HM.out]
      exact congrArg (Value.int IntKind.u32) h
    · go_wp2
      go_ret
      have hm := HM.out
      rw [Nat.mod_eq_of_lt (by omega)] at hm
      subst hm
      exact ⟨rfl, rfl⟩
end Go.Proofs.Ytbfegppjaoabaaa
