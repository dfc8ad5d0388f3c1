/- What the functions of package crc answer: contracts by walks. -/
import Derived.Test.YtbfegppjaoabaaaRow8
import Derived.Test.YtbfegppjaoabaaaCrcP
import Derived.Laws.BitsAllLaws
namespace Go.Proofs.Ytbfegppjaoabaaa
open Go.RowKit
open Crc

theorem xor_v (c d : BitVec 32) : Go.bits .xor .u32 (c.toNat : Int) (d.toNat : Int) = ((c ^^^ d).toNat : Int) := by
  rw [u32_xor_nat _ _ c.isLt d.isLt, BitVec.toNat_xor]
theorem not_v (d : BitVec 32) : Go.bits .xor .u32 IntKind.u32.max (d.toNat : Int) = ((~~~ d).toNat : Int) := by
  have := xor_v (BitVec.allOnes 32) d
  rw [BitVec.allOnes_xor] at this
  rw [← this]
  rfl
theorem low_v (d : BitVec 32) : Go.bits .and .u32 (d.toNat : Int) 1 = ((if d.getLsbD 0 then 1 else 0 : Nat) : Int) := by
  rw [show (1 : Int) = ((1 : Nat) : Int) from rfl, u32_and_nat _ _ d.isLt (by omega), Nat.and_one_is_mod]
  congr 1
  rw [← BitVec.testBit_toNat, Nat.testBit_zero]
  rcases Nat.mod_two_eq_zero_or_one d.toNat with h | h <;> simp [h]
theorem zero_v (d : BitVec 32) : Go.bits .xor .u32 ((d.toNat : Int) / 2) (Go.bits .and .u32 (d.toNat : Int) 1 * 3988292384 % 4294967296) = ((zero d).toNat : Int) := by
  have hd : (d.toNat : Int) / (2 : Int) = ((d >>> 1).toNat : Int) := by
    rw [BitVec.toNat_ushiftRight, Nat.shiftRight_eq_div_pow]
    omega
  rw [low_v, hd]
  unfold zero Crc.step
  rw [Bool.xor_false]
  cases d.getLsbD 0
  · have := xor_v (d >>> 1) 0#32
    rw [BitVec.xor_zero] at this
    simpa using this
  · have := xor_v (d >>> 1) poly
    simpa [poly] using this
theorem zeros_succ (k : Nat) : ∀ c, zeros (k + 1) c = zero (zeros k c) := by
  induction k with
  | zero => intro c; rfl
  | succ k ih => intro c; show zeros (k + 1) (zero c) = zero (zeros k (zero c)); exact ih _
theorem word_byte (x : UInt8) : word (bits8 x) = BitVec.ofNat 32 x.toNat := by
  apply BitVec.eq_of_getLsbD_eq
  intro i hi
  rw [word_bit _ _ hi, List.getD_eq_getElem?_getD, BitVec.getLsbD_ofNat, decide_eq_true hi]
  by_cases h : i < 8
  · simp [bits8, h]
  · rw [List.getElem?_eq_none (by rw [bits8_len]; omega)]
    have hx : x.toNat < 2 ^ i := Nat.lt_of_lt_of_le (UInt8.toNat_lt x) (Nat.pow_le_pow_right (by omega) (show 8 ≤ i by omega))
    simp [Nat.testBit_lt_two_pow hx]
theorem run_byte (c : BitVec 32) (x : UInt8) : run c (bits8 x) = zeros 8 (c ^^^ BitVec.ofNat 32 x.toNat) := by
  rw [run_word _ _ (by rw [bits8_len]; omega), word_byte, bits8_len]
theorem byte_v (c : BitVec 32) (x : UInt8) : Go.bits .xor .u32 (c.toNat : Int) (x.toNat : Int) = ((c ^^^ BitVec.ofNat 32 x.toNat).toNat : Int) := by
  have hx := UInt8.toNat_lt x
  have := xor_v c (BitVec.ofNat 32 x.toNat)
  rwa [BitVec.toNat_ofNat, Nat.mod_eq_of_lt (by omega)] at this

theorem with_c (c : BitVec 32) (x : UInt8) (w : World) : Calls Try.prog 23 #[.int .u32 (c.toNat : Int), .int .u8 (x.toNat : Int)] w fun e w' => e = .returned (.int .u32 ((run c (bits8 x)).toNat : Int)) ∧ w = w' := by
  have hc := c.isLt
  have hx := UInt8.toNat_lt x
  go_enter Try.func23, Try.ntmps23
  go_wp2
  go_loop [0, 9] (fun s i => ∃ (k : Nat) (d : BitVec 32), s = .int .u32 (d.toNat : Int) ∧ i = .int .i64 k ∧ k ≤ 8 ∧ d = zeros k (c ^^^ BitVec.ofNat 32 x.toNat)) (fun _ i => 8 - (intOf i).toNat)
  case atStart => exact ⟨0, c ^^^ BitVec.ofNat 32 x.toNat, by rw [byte_v], rfl, by omega, rfl⟩
  case round =>
    obtain ⟨k, d, rfl, rfl, hk, hd⟩ := hrel
    have hd' := d.isLt
    have HD := Lib.hid hd
    clear hd
    by_cases h : k < 8
    · go_wp2
      exact ⟨⟨k + 1, zero d, by rw [zero_v], by go_num, by omega, by rw [zeros_succ, ← HD.out]⟩, by simp [intOf]; omega⟩
    · go_wp2
      go_ret
      obtain rfl : k = 8 := by omega
      exact ⟨by rw [run_byte, ← HD.out]; rfl, rfl⟩

/-- one of the parts: a slice, and the bytes that it reads as -/
structure Part where
  a : Option Addr
  n : Nat
  c : Nat
  bs : List UInt8
def Part.v (p : Part) : Value := .slice p.a p.n p.c
def Parts (w : World) (B : Nat) (A : Option Addr) (ps : List Part) : Prop := Rd w B A (ps.map Part.v) ∧ ∀ p ∈ ps, p.n = p.bs.length ∧ p.n ≤ big ∧ Rd w B p.a (p.bs.map B8)
def Part.all (ps : List Part) : List UInt8 := ps.flatMap Part.bs
theorem all_take (ps : List Part) (k : Nat) (p : Part) (h : ps[k]? = some p) : Part.all (ps.take (k + 1)) = Part.all (ps.take k) ++ p.bs := by
  unfold Part.all
  rw [List.take_add_one, h]; simp
theorem bits_take (bs : List UInt8) (k : Nat) (x : UInt8) (h : bs[k]? = some x) : bitsL (bs.take (k + 1)) = bitsL (bs.take k) ++ bits8 x := by
  unfold bitsL
  rw [List.take_add_one, h]; simp

theorem of_c (A : Option Addr) (n c : Nat) (ps : List Part) (hn : n = ps.length) (hl : n ≤ big) (B : Nat) (w : World) (hp : Parts w B A ps) :
    Calls Try.prog 14 #[.slice A n c] w fun e w' => e = .returned (.int .u32 ((sum (Part.all ps)).toNat : Int)) ∧ w = w' := by
  have HN := Lib.hid hn; clear hn
  have HP := Lib.hid hp; clear hp
  have h47 : n ≤ 140737488355328 := hl
  go_enter Try.func14, Try.ntmps14
  go_wp2
  go_loop [3, 10] (fun s i => ∃ (k : Nat) (d : BitVec 32), s = .int .u32 (d.toNat : Int) ∧ i = .int .i64 k ∧ k ≤ n ∧ d = run (BitVec.allOnes 32) (bitsL (Part.all (ps.take k)))) (fun _ i => n - (intOf i).toNat)
  case atStart => exact ⟨0, BitVec.allOnes 32, rfl, rfl, by omega, rfl⟩
  case round =>
    obtain ⟨k, d, rfl, rfl, hk, hd⟩ := hrel
    have HD := Lib.hid hd
    clear hd
    by_cases h : k < n
    · obtain ⟨b, o, rfl, hbB, hcell⟩ := HP.out.1 (by rw [List.length_map, ← HN.out]; omega)
      have hkl : k < ps.length := by rw [← HN.out]; exact h
      have hx : ps[k]? = some ps[k] := List.getElem?_eq_getElem hkl
      have hc0 := hcell k ps[k].v (by simp [hkl])
      have hpk := HP.out.2 ps[k] (List.getElem_mem hkl)
      generalize ps[k] = p at hx hc0 hpk
      obtain ⟨pa, pn, pc, pbs⟩ := p
      have hcx : w.cell? ⟨b, o + k, none⟩ = some (.slice pa pn pc) := hc0
      obtain ⟨hpn, hpl, hpr⟩ := hpk
      have hpl' : pn ≤ 140737488355328 := hpl
      have HX := Lib.hid hx
      have HPN := Lib.hid hpn
      have HPR := Lib.hid hpr
      clear hx hc0 hcell hkl hpn hpr hpl
      go_wp2
      go_loop [3, 16] (fun s i => ∃ (j : Nat) (g : BitVec 32), s = .int .u32 (g.toNat : Int) ∧ i = .int .i64 j ∧ j ≤ pn ∧ g = run d (bitsL (pbs.take j))) (fun _ i => pn - (intOf i).toNat)
      case atStart => exact ⟨0, d, rfl, rfl, by omega, rfl⟩
      case round =>
        obtain ⟨j, g, rfl, rfl, hj, hg⟩ := hrel
        have HG := Lib.hid hg
        clear hg
        by_cases h2 : j < pn
        · obtain ⟨b2, o2, rfl, _, hcell2⟩ := HPR.out (by rw [List.length_map, ← HPN.out]; omega)
          have hjl : j < pbs.length := by rw [← HPN.out]; exact h2
          have hy : pbs[j]? = some pbs[j] := List.getElem?_eq_getElem hjl
          have hc1 := hcell2 j (B8 pbs[j]) (by simp [hjl])
          generalize pbs[j] = y at hy hc1
          have hcy : w.cell? ⟨b2, o2 + j, none⟩ = some (.int .u8 (y.toNat : Int)) := hc1
          have hy8 := UInt8.toNat_lt y
          have HY := Lib.hid hy
          clear hy hc1 hcell2 hjl
          go_wp2_with (go_at_call 23; refine (with_c g y _).mono ?_; rintro e w' ⟨rfl, rfl⟩)
          exact ⟨⟨j + 1, _, rfl, by go_num, by omega, by rw [bits_take _ _ _ HY.out, run_append, ← HG.out]⟩, by simp [intOf]; omega⟩
        · go_wp2
          obtain rfl : j = pn := by omega
          refine ⟨⟨k + 1, g, rfl, by go_num, by omega, ?_⟩, by simp [intOf]; omega⟩
          rw [all_take _ _ _ HX.out, bitsL_append, run_append, ← HD.out, HG.out, List.take_of_length_le (by rw [← HPN.out]; omega)]
    · go_wp2
      go_ret
      obtain rfl : k = n := by omega
      have e := HD.out
      rw [List.take_of_length_le (by rw [← HN.out]; omega)] at e
      refine ⟨ret_int ?_, rfl⟩
      unfold sum
      rw [not_v, e]
end Go.Proofs.Ytbfegppjaoabaaa
